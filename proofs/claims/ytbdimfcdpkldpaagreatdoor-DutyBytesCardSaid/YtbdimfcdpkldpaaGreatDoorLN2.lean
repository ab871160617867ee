/- The contracts of strconv.FormatUint at base ten and of package nums' Print. The contract of strconv.FormatUint at base sixteen. The contracts of package nums' Hex and ReadHex, and of the reference's Print, Hex and ReadHex. The contracts of the reference's digit, Print, Hex and ReadHex. The contracts of package nums' addWord and Words. The contracts of the reference's Words, Join and Same. -/
import Derived.Test.YtbdimfcdpkldpaaGreatDoorLN1
import Derived.Test.YtbdimfcdpkldpaaGreatDoorShelf
import Derived.Lib.Walk
import Derived.Lib.ItoaMem
import Derived.BigCall
import Derived.BigGuard
import Derived.Laws.BitsAllLaws
import Derived.Laws.ShiftsVarLaws
import Derived.CellFam
import Derived.Lib.Repeat
import Derived.Laws.CopyOwn
import Derived.Below
import Derived.Deep.Onto
import Derived.OpenShut
import Derived.Laws.DeepStrings4
import Derived.Deep.QuietTactic
import Derived.BigQuiet
namespace Go.Proofs.YtbdimfcdpkldpaaGreatDoor
open Go.RowKit Go.Sort Go.Lib

/-- What the walks want of the library's tables: the powers of ten, and one cell of the table by which trailing zeros are counted. -/
def Tabs (w : World) : Prop := Lib.TabIs Tryz.prog w "internal/strconv.uint64pow10" .u64 Lib.pow10Tab ∧ w.cell? ⟨4, 15, none⟩ = some (.int .u8 4)
theorem gPow : Tryz.prog.globalNamed "internal/strconv.uint64pow10" = some 2 := by kernel_rfl
theorem Tabs.below {w w' : World} {B : Nat} (h : Tabs w) (hb : Below B w w') (hB : w.heap.size ≤ B) : Tabs w' := by
  obtain ⟨h1, h2⟩ := h
  have hlt : 4 < w.heap.size := block_lt_of_cell h2
  refine ⟨?_, (hb.cell (p := ⟨4, 15, none⟩) (show 4 < B by omega)).trans h2⟩
  unfold Lib.TabIs World.var? at *
  rw [gPow] at h1 ⊢
  simp only [Option.bind_some] at h1 ⊢
  rw [hb.block 2 (by omega)]
  exact h1

/-- The new block's bytes from the first on are a row of zeros. -/
theorem holds_zero0 (w : World) (T : TypeId) (nd : Nat) (hs : nd ≤ 24) : Holds (fun (b : UInt8) => Value.int .u8 (b.toNat : Int)) (w.alloc (.cells zeros24 T)) w.heap.size 0 (Array.replicate nd (0 : UInt8)) := fun j hj => by
  have hj' : j < nd := by simpa using hj
  refine ⟨?_, World.frozen?_alloc_new _ _ _ _⟩
  rw [World.cell?_alloc_new, zeros24_at _ (by omega), getElem!_pos _ j hj]
  simp

theorem al24 : Tryz.prog.arrayLen 197 = 24 := by kernel_rfl
theorem el24 : (Tryz.prog.underlying 197) = some (.array 24 5) := by kernel_rfl

theorem below_grow_drew (w : World) (k : Nat) (os : Array Obj) : Below w.heap.size w (grow (w.drewN k) os) :=
  ⟨rfl, rfl, rfl, by show w.heap.size ≤ (w.heap ++ os).size; rw [Array.size_append]; omega, fun j hj => by
    show (w.heap ++ os)[j]? = w.heap[j]?
    rw [Array.getElem?_append_left hj]⟩

set_option maxHeartbeats 1600000 in
set_option maxRecDepth 100000 in
theorem FU10_any (u : Nat) (hu64 : u < 18446744073709551616) (w : World) (htab : Tabs w) :
    Calls Tryz.prog 136 #[.int .u64 u, .int .i64 10] w fun e w' => e = .returned (.string ⟨(Lib.decDigits u).toArray⟩) ∧ Below w.heap.size w w' := by
  by_cases hs : u < 100
  · clear hu64
    go_enter Tryz.func136, Tryz.ntmps136
    go_wp2_with (go_at_call 159; refine (Tryz.internal_strconv_small u hs _).mono ?_; rintro e w' ⟨rfl, rfl⟩)
    go_ret
    exact ⟨rfl, Below.refl _ _⟩
  · have hu1 : 1 ≤ u := by omega
    have hnd20 : Lib.nDigits u ≤ 20 := by have := Lib.numDigits_eq u hu1 hu64; split at this <;> omega
    have hal : Tryz.prog.arrayLen 197 = 24 := al24
    have hsl1 : ∀ W, (Instr.sliceAt 197 (.pointer (some ⟨w.heap.size, 0, none⟩)) none (some (.int .i64 (Lib.nDigits u : Int))) none).run Tryz.prog W = .ok (.slice (some ⟨w.heap.size, 0, none⟩) (Lib.nDigits u) 24) W := fun W => by
      rw [run_sliceAt_array_h W 197 ⟨w.heap.size, 0, none⟩ (by simp [Program.arrayLen, Program.elem]) .i64 (Lib.nDigits u : Int) (by omega) (by rw [hal]; omega)]
      go_simp
      try omega
    have hH0 := holds_zero0 w 197 (Lib.nDigits u) (by omega)
    have hfmt := Tryz.internal_strconv_formatBase10 w.heap.size 0 24 u (Array.replicate (Lib.nDigits u) 0) (w.alloc (.cells Lib.zeros24 197)) hH0 (by rw [Array.size_replicate]; exact Lib.lt_pow_nDigits u) hu64 (by rw [Array.size_replicate]; omega)
    rw [Array.size_replicate] at hfmt
    have HH0 := Lib.hid hH0
    have Htab := Lib.hid (Lib.tabIs_alloc htab.1 (.cells Lib.zeros24 197))
    clear hH0 hal htab
    go_enter Tryz.func136, Tryz.ntmps136
    go_wp2_with (first
      | (go_at_call 160; refine (Tryz.internal_strconv_numDigits u hu1 hu64 _ Htab.out).mono ?_; rintro e w' ⟨rfl, rfl⟩))
    go_at_call 161
    refine hfmt.mono ?_
    rintro e w' ⟨rfl, k, v', dk, rfl, hF⟩
    have hcv : (convert 38 9 (.slice (some ⟨w.heap.size, 0, none⟩) (Lib.nDigits u) 24)).run Tryz.prog ((putRow (fun (b : UInt8) => Value.int .u8 (b.toNat : Int)) (w.alloc (.cells Lib.zeros24 197)) w.heap.size 0 dk).drewN k) = .ok (.string ⟨(Lib.decDigits u).toArray⟩) ((putRow (fun (b : UInt8) => Value.int .u8 (b.toNat : Int)) (w.alloc (.cells Lib.zeros24 197)) w.heap.size 0 dk).drewN k) := by
      have h := run_convert_bytes_back (P := Tryz.prog) ((putRow (fun (b : UInt8) => Value.int .u8 (b.toNat : Int)) (w.alloc (.cells Lib.zeros24 197)) w.heap.size 0 dk).drewN k) 38 9 5 ⟨w.heap.size, 0, none⟩ 24 (Lib.decDigits u) Tryz.underlying38 Tryz.underlying5 Tryz.underlying9 (fun j hj => by
        rw [Lib.row_is_numeral hF j hj, Lib.add_plain, World.cell?_drewN]
        exact cell?_putRow (fun (b : UInt8) => Value.int .u8 (b.toNat : Int)) _ w.heap.size 0 _ dk HH0.out (by rw [hF.size, Array.size_replicate]) j (by rw [hF.size]; rw [Lib.decDigits_length] at hj; exact hj))
      rw [Lib.decDigits_length] at h
      exact h
    go_wp2
    go_ret
    refine ⟨rfl, ?_⟩
    rw [alloc_eq_grow]
    obtain ⟨os', _, e⟩ := putRow_grow_new (fun (b : UInt8) => Value.int .u8 (b.toNat : Int)) w #[.cells Lib.zeros24 197] w.heap.size 0 dk (Nat.le_refl _)
    rw [e]
    exact below_grow_drew _ _ _

theorem SFU10_any (u : Nat) (hu : u < 18446744073709551616) (w : World) (htab : Tabs w) :
    Calls Tryz.prog 106 #[.int .u64 u, .int .i64 10] w fun e w' => e = .returned (.string ⟨(Lib.decDigits u).toArray⟩) ∧ Below w.heap.size w w' := by
  have h := FU10_any u hu w htab
  clear hu htab
  go_enter Tryz.func106, Tryz.ntmps106
  go_wp2_with (go_at_call 136; refine h.mono ?_; rintro e w' ⟨rfl, hb⟩)
  go_ret
  exact ⟨rfl, hb⟩
theorem Print_any (u : Nat) (hu : u < 18446744073709551616) (w : World) (htab : Tabs w) :
    Calls Tryz.prog 63 #[.int .u64 u] w fun e w' => e = .returned (.string ⟨(Lib.decDigits u).toArray⟩) ∧ Below w.heap.size w w' := by
  have h := SFU10_any u hu w htab
  clear hu htab
  go_enter Tryz.func63, Tryz.ntmps63
  go_wp2_with (go_at_call 106; refine h.mono ?_; rintro e w' ⟨rfl, hb⟩)
  go_ret
  exact ⟨rfl, hb⟩
end Go.Proofs.YtbdimfcdpkldpaaGreatDoor

namespace Go.Proofs.YtbdimfcdpkldpaaGreatDoor
open Go.RowKit Go.Sort Go.Lib

theorem key16 : IntKind.u64.wrap (bits BinOp.and IntKind.u64 (16 : Int) (IntKind.u64.wrap (-(16 : Int))) * 285870213051353865) / 288230376151711744 = (15 : Int) := by decide +kernel
theorem tz64_16 (w : World) (hcell : w.cell? ⟨4, 15, none⟩ = some (.int .u8 4)) :
    Calls Tryz.prog 184 #[.int .u64 16] w fun e w' => e = .returned (.int .i64 4) ∧ w = w' := by
  go_enter Tryz.func184, Tryz.ntmps184
  go_wp2_with (simp only [key16])
  go_ret
  exact ⟨rfl, rfl⟩
theorem tz16 (w : World) (hc : w.cell? ⟨4, 15, none⟩ = some (.int .u8 4)) :
    Calls Tryz.prog 180 #[.int .u64 16] w fun e w' => e = .returned (.int .i64 4) ∧ w = w' := by
  go_enter Tryz.func180, Tryz.ntmps180
  go_wp2_with (go_at_call 184; refine (tz64_16 _ hc).mono ?_; rintro e w' ⟨rfl, rfl⟩)
  go_ret
  exact ⟨rfl, rfl⟩
theorem pow16 (w : World) :
    Calls Tryz.prog 179 #[.int .i64 16] w fun e w' => e = .returned (.bool true) ∧ w = w' := by
  go_enter Tryz.func179, Tryz.ntmps179
  go_wp2
  go_ret
  exact ⟨rfl, rfl⟩

/-- The block that formatBits writes its digits into: from place i on it holds L. -/
def Row65 (w : World) (b i : Nat) (L : List UInt8) : Prop :=
  (∀ j, j < 65 → (∃ v, w.cell? ⟨b, j, none⟩ = some v) ∧ w.frozen? ⟨b, j, none⟩ = false) ∧ ∀ j, (h : j < L.length) → w.cell? ⟨b, i + j, none⟩ = some (.int .u8 (L[j].toNat : Nat))
theorem Row65.cons {w : World} {b i : Nat} {L : List UInt8} (h : Row65 w b (i + 1) L) (hi : i < 65) (c : UInt8) : Row65 (w.setCell ⟨b, i, none⟩ (.int .u8 (c.toNat : Nat))) b i (c :: L) := by
  obtain ⟨h1, h2⟩ := h
  have hc0 := h1 i hi
  obtain ⟨⟨v0, hc0⟩, hf0⟩ := hc0
  refine ⟨fun j hj => ?_, fun j hj => ?_⟩
  · obtain ⟨⟨v, hv⟩, hf⟩ := h1 j hj
    refine ⟨?_, ?_⟩
    · by_cases e : j = i
      · subst e
        exact ⟨_, World.cell?_setCell_same _ _ _ hc0⟩
      · exact ⟨v, by rw [World.cell?_setCell_other _ _ _ _ (by simp <;> exact e)]; exact hv⟩
    · rw [World.frozen?_setCell]; exact hf
  · cases j with
    | zero => exact World.cell?_setCell_same _ _ _ hc0
    | succ j =>
      have hj' : j < L.length := by simpa using hj
      rw [World.cell?_setCell_other _ _ _ _ (by simp), List.getElem_cons_succ, ← h2 j hj', show i + (j + 1) = i + 1 + j by omega]

def zeros65 : Array Value := Array.replicate 65 (.int .u8 0)
theorem Row65.new (w : World) (T : TypeId) : Row65 (w.alloc (.cells zeros65 T)) w.heap.size 65 [] := by
  refine ⟨fun j hj => ⟨⟨.int .u8 0, ?_⟩, World.frozen?_alloc_new _ _ _ _⟩, fun j hj => by simp at hj⟩
  rw [World.cell?_alloc_new]
  unfold zeros65
  rw [Array.getElem?_replicate, if_pos hj]

theorem und16 (x : Nat) (h : x < 18446744073709551616) : bits .and .u64 (x : Int) 15 = ((x % 16 : Nat) : Int) := by
  have := u64_and_nat x 15 h (by decide)
  rw [show ((15 : Nat) : Int) = 15 from rfl] at this
  rw [this, show (15 : Nat) = 2 ^ 4 - 1 by decide, Nat.and_two_pow_sub_one_eq_mod]

theorem dg36_fin : ∀ x : Fin 16, Lib.digits36.data.toList[x.val]? = some (dgB x.val) := by decide +kernel
theorem idx36 (k : IntKind) (x : Nat) (h : x < 16) (W : World) :
    (Instr.index 9 (.string Lib.digits36) (.int k x)).run Tryz.prog W = .ok (.int .u8 ((dgB x).toNat : Nat)) W := by
  have hs : x < Lib.digits36.size := by rw [Lib.digits36_size]; omega
  rw [run_index_string W 9 Lib.digits36 k x und_str, dif_pos ⟨by omega, by omega⟩]
  have := dg36_fin ⟨x, h⟩
  rw [byte_at _ _ hs] at this
  congr 4
  exact Option.some.inj this

theorem al65 : Tryz.prog.arrayLen 215 = 65 := by kernel_rfl
theorem el65 : (Tryz.prog.underlying 215) = some (.array 65 5) := by kernel_rfl

set_option maxHeartbeats 1600000 in
set_option maxRecDepth 100000 in
theorem fBits_any (u0 : Nat) (hu64 : u0 < 18446744073709551616) (w : World) (htab : Tabs w) :
    Calls Tryz.prog 162 #[.slice none 0 0, .int .u64 u0, .int .i64 16, .bool false, .bool false] w fun e w' => e = .returned (.tuple #[.slice none 0 0, .string ⟨(hexM u0).toArray⟩]) ∧ Below w.heap.size w w' := by
  have hl16 := hexM_len 15 u0 (by omega)
  have hc15 := htab.2
  have hc15' : (w.alloc (.cells zeros65 215)).cell? ⟨4, 15, none⟩ = some (.int .u8 4) := by
    rw [World.cell?_alloc_old _ _ _ (by have := block_lt_of_cell hc15; simp only at this ⊢; omega)]
    exact hc15
  have Hc := Lib.hid hc15'
  have Hu := Lib.hid hu64
  have hR := Row65.new w 215
  have HR := Lib.hid hR
  clear hc15 hc15' hu64 htab hR
  go_enter Tryz.func162, Tryz.ntmps162
  go_name_bytes MG hMG
  clear hMG
  go_name_bytes DG hDG
  have eDG : DG = Lib.digits36 := by rw [← hDG]; decide +kernel
  subst eDG
  clear hDG
  go_wp2_with (first
    | (go_at_call 179; refine (pow16 _).mono ?_; rintro e w' ⟨rfl, rfl⟩)
    | (go_at_call 180; refine (tz16 _ Hc.out).mono ?_; rintro e w' ⟨rfl, rfl⟩))
  generalize hW1 : w.alloc (.cells zeros65 215) = W1 at HR
  have hb1 : Below w.heap.size w W1 := by rw [← hW1]; exact (Below.refl _ _).alloc (Nat.le_refl _) _
  clear hW1 Hc
  go_loopw [1, 13] (fun vu vi wr => ∃ (u i : Nat) (L : List UInt8), vu = .int .u64 u ∧ vi = .int .i64 i ∧ i + L.length = 65 ∧ Hid (hexM u0 = hexM u ++ L) ∧ Hid (u < 18446744073709551616) ∧ Row65 wr w.heap.size i L ∧ Below w.heap.size w wr) (fun _ vi _ => (RowKit.intOf vi).toNat)
  case atStart => exact ⟨u0, 65, [], rfl, rfl, rfl, Lib.hid (by simp), Hu, HR.out, hb1⟩
  case round =>
    obtain ⟨u, i, L, rfl, rfl, hiL, Hx, Hlt, hrow, hbr⟩ := hrel
    have hlen := congrArg List.length Hx.out
    rw [List.length_append] at hlen
    have hpos : 1 ≤ (hexM u).length := by
      by_cases h : u < 16
      · rw [hexM_small h]; simp
      · rw [hexM_big h]; simp
    have hi1 : 50 ≤ i := by omega
    have hi2 : i ≤ 65 := by omega
    have hL : L.length ≤ 15 := by omega
    clear hlen hpos
    obtain ⟨i, rfl⟩ : ∃ k, i = k + 1 := ⟨i - 1, by omega⟩
    obtain ⟨⟨v0, hcell⟩, hfroz⟩ := hrow.1 i (by omega)
    by_cases h16 : 16 ≤ u
    · have hand := und16 u Hlt.out
      have hix := idx36 .u64 (u % 16) (by omega)
      have hrow2 := hrow.cons (by omega) (dgB (u % 16))
      have hx2 : hexM u0 = hexM (u / 16) ++ dgB (u % 16) :: L := by
        rw [Hx.out, hexM_big (by omega)]; simp
      generalize u % 16 = r at hand hix hrow2 hx2
      have Hx2 := Lib.hid hx2
      have HR2 := Lib.hid hrow2
      clear hx2 hrow2 hrow
      go_wp2
      go_roundw
      case rel => exact ⟨u / 16, i, dgB r :: L, by go_num, by go_num, by simp; omega, Hx2, Lib.hid (Nat.lt_of_le_of_lt (Nat.div_le_self _ _) Hlt.out), HR2.out, hbr.setCell (Nat.le_refl _) _⟩
      case measure => (simp [RowKit.intOf] <;> go_num)
    · have hix := idx36 .u64 u (by omega)
      have hrow2 := hrow.cons (by omega) (dgB u)
      have hx2 : hexM u0 = dgB u :: L := by
        rw [Hx.out, hexM_small (by omega)]; simp
      generalize dgB u = c at hix hrow2 hx2
      have hlc : (c :: L).length = 65 - i := by rw [List.length_cons]; omega
      have hbr2 := hbr.setCell (p := ⟨w.heap.size, i, none⟩) (Nat.le_refl _) (.int .u8 (c.toNat : Nat))
      have hcv := run_convert_bytes_back (P := Tryz.prog) (wr.setCell ⟨w.heap.size, i, none⟩ (.int .u8 (c.toNat : Nat))) 38 9 5 ⟨w.heap.size, i, none⟩ (65 - i) (c :: L) Tryz.underlying38 Tryz.underlying5 Tryz.underlying9 (fun j hj => by
        rw [Lib.add_plain]
        exact hrow2.2 j hj)
      have hsl : ∀ W, (Instr.sliceAt 215 (.pointer (some ⟨w.heap.size, 0, none⟩)) (some (.int .i64 (i : Int))) none none).run Tryz.prog W = .ok (.slice (some ⟨w.heap.size, i, none⟩) (65 - i) (65 - i)) W := fun W => by
        rw [run_sliceAt_array_l W 215 ⟨w.heap.size, 0, none⟩ (by simp [Program.arrayLen, Program.elem]) .i64 (i : Int) (by omega) (by rw [al65]; omega)]
        rw [al65]
        go_simp
        try omega
      rw [hlc] at hcv
      have Hx2 := Lib.hid hx2
      clear hx2 hrow2 hrow hlc
      generalize hs2 : wr.setCell ⟨w.heap.size, i, none⟩ (.int .u8 (c.toNat : Nat)) = w2 at hcv hbr2
      go_wp2
      go_ret2
      refine ⟨?_, hbr2⟩
      rw [Hx2.out]
      rfl
end Go.Proofs.YtbdimfcdpkldpaaGreatDoor

namespace Go.Proofs.YtbdimfcdpkldpaaGreatDoor
open Go.RowKit Go.Sort

theorem FU16_any (u : Nat) (hu : u < 18446744073709551616) (w : World) (htab : Tabs w) :
    Calls Tryz.prog 136 #[.int .u64 u, .int .i64 16] w fun e w' => e = .returned (.string ⟨(hexM u).toArray⟩) ∧ Below w.heap.size w w' := by
  have h := fBits_any u hu w htab
  clear hu htab
  go_enter Tryz.func136, Tryz.ntmps136
  go_wp2_with (go_at_call 162; refine h.mono ?_; rintro e w' ⟨rfl, hb⟩)
  go_ret
  exact ⟨rfl, hb⟩
theorem SFU16_any (u : Nat) (hu : u < 18446744073709551616) (w : World) (htab : Tabs w) :
    Calls Tryz.prog 106 #[.int .u64 u, .int .i64 16] w fun e w' => e = .returned (.string ⟨(hexM u).toArray⟩) ∧ Below w.heap.size w w' := by
  have h := FU16_any u hu w htab
  clear hu htab
  go_enter Tryz.func106, Tryz.ntmps106
  go_wp2_with (go_at_call 136; refine h.mono ?_; rintro e w' ⟨rfl, hb⟩)
  go_ret
  exact ⟨rfl, hb⟩

theorem ret_str {a b : ByteArray} (h : a = b) : Ending.returned (.string a) = .returned (.string b) := by rw [h]
theorem mk_append (a b : List UInt8) : (ByteArray.mk a.toArray) ++ (ByteArray.mk b.toArray) = ⟨(a ++ b).toArray⟩ := by
  apply ByteArray.ext
  rw [ByteArray.data_append]
  simp
theorem repeat_48 : ∀ c, Lib.repeatL [48] c = List.replicate c 48
  | 0 => rfl
  | c + 1 => by rw [List.replicate_succ, ← repeat_48 c]; rfl

set_option maxHeartbeats 400000 in
theorem Hex_any (u : Nat) (hu : u < 18446744073709551616) (w : World) (htab : Tabs w) :
    Calls Tryz.prog 64 #[.int .u64 u] w fun e w' => e = .returned (.string ⟨(hexN 16 u).toArray⟩) ∧ Below w.heap.size w w' := by
  have h := SFU16_any u hu w htab
  have hpad := hex_pad 15 u (by omega)
  have hlen := hexM_len 15 u (by omega)
  obtain ⟨S, hS⟩ : ∃ S : ByteArray, S = ⟨(hexM u).toArray⟩ := ⟨_, rfl⟩
  have hsz : S.size = (hexM u).length := by rw [hS]; simp [ByteArray.size]
  rw [← hS] at h
  rw [← hsz] at hpad hlen
  have HS := Lib.hid hS
  have Hp := Lib.hid hpad
  have hrep := fun w => Tryz.strings_Repeat ⟨#[48]⟩ (16 - S.size) w (by omega) (by show 1 * (16 - S.size) ≤ _; omega)
  have hr48 : (ByteArray.mk #[48]).data.toList = [48] := rfl
  rw [hr48, repeat_48] at hrep
  have hc : ((16 - S.size : Nat) : Int) = 16 - (S.size : Int) := by omega
  rw [hc] at hrep
  obtain ⟨R, hR⟩ : ∃ R : ByteArray, R = ⟨(List.replicate (16 - S.size) 48).toArray⟩ := ⟨_, rfl⟩
  have hRs : R.size ≤ 16 := by
    rw [hR]
    show (List.replicate (16 - S.size) (48 : UInt8)).toArray.size ≤ 16
    rw [List.size_toArray, List.length_replicate]; omega
  rw [← hR] at hrep
  have HR := Lib.hid hR
  clear hu htab hS hpad hR hsz hc hr48
  go_enter Tryz.func64, Tryz.ntmps64
  go_wp2_with (first
    | (go_at_call 106; refine h.mono ?_; clear h; rintro e w1 ⟨rfl, hb1⟩)
    | (go_at_call 107; refine (hrep _).mono ?_; clear hrep; rintro e w2 ⟨rfl, hb2⟩))
  go_ret
  exact ⟨ret_str ((congr (congrArg HAppend.hAppend HR.out) HS.out).trans ((mk_append _ _).trans (congrArg (fun l : List UInt8 => ByteArray.mk l.toArray) Hp.out))), hb1.trans (hb2.mono hb1.size)⟩

theorem take_all (s : ByteArray) : s.data.toList.take s.size = s.data.toList := List.take_of_length_le (Nat.le_refl _)
theorem all_take (b : Nat) (l : List UInt8) (k : Nat) (h : allD b l = true) : allD b (l.take k) = true := by
  rw [← List.take_append_drop k l, allD_append, Bool.and_eq_true] at h
  exact h.1
theorem or_step (n v : Nat) (hv : v < 16) : n * 16 ||| v = n * 16 + v := by
  rw [show n * 16 = n <<< 4 by rw [Nat.shiftLeft_eq]]
  rw [Nat.shiftLeft_add_eq_or_of_lt (show v < 2 ^ 4 by omega)]

set_option maxHeartbeats 800000 in
theorem ReadHex_any (s : ByteArray) (w : World) :
    Calls Tryz.prog 150 #[.string s] w fun e w' => e = .returned (.tuple #[.int .u64 ((hexR s.data.toList).1 : Nat), .int .i64 ((hexR s.data.toList).2 : Nat)]) ∧ Below w.heap.size w w' := by
  have hdg := digits_any s 16 (.inr rfl)
  have hsz : s.data.toList.length = s.size := rfl
  by_cases h16 : s.size = 16
  · by_cases hd : allD 16 s.data.toList = true
    · have hr : hexR s.data.toList = (num 16 s.data.toList, 0) := by unfold hexR; rw [if_pos ⟨hsz.trans h16, hd⟩]
      rw [hr]
      rw [hd] at hdg
      generalize hm : num 16 s.data.toList = m
      have Hm := Lib.hid hm
      clear hr hm hsz
      have hle16 : s.size ≤ 16 := by omega
      go_enter Tryz.func150, Tryz.ntmps150
      go_wp2_with (go_at_call 174; refine (hdg _).mono ?_; rintro e w1 ⟨rfl, hb⟩; clear hdg)
      clear h16
      go_loopw [4] (fun x w' => ∃ pos n : Nat, w' = w1.iter s pos ∧ x = .int .u64 n ∧ pos ≤ s.size ∧ Hid (n = num 16 (s.data.toList.take pos))) (fun _ w' => s.size - w'.iterPos w1.heap.size)
      case atStart => exact ⟨0, 0, rfl, rfl, by omega, Lib.hid rfl⟩
      case round =>
        obtain ⟨pos, n, rfl, rfl, hle, Hn⟩ := hrel
        by_cases hp : pos < s.size
        · have hnx : ∀ ty, (Instr.next (.pointer (some ⟨w1.heap.size, 0, none⟩)) true ty).run Tryz.prog (w1.iter s pos) = _ := fun ty => run_next_any w1 s pos ty hp
          have hv16 := all_at 16 s pos hp hd
          have ha : (s[pos]'hp).toNat < 128 := small_of_val _ (by unfold valB at hv16; omega)
          rw [decode_ascii s pos hp ha] at hnx
          have hdi := digit_any (s[pos]'hp).toNat (by omega)
          have hv : dgI (s[pos]'hp).toNat = ((valB (s[pos]'hp) : Nat) : Int) := by
            unfold dgI; rw [if_pos (by unfold valB at hv16; omega)]; rfl
          simp only [hv] at hdi
          have hnum := num_snoc 16 (s.data.toList.take pos) (s[pos]'hp)
          rw [← take_next s pos hp, ← Hn.out] at hnum
          have hsm := num_lt 16 _ (all_take 16 _ pos hd)
          rw [← Hn.out, List.length_take, show s.data.toList.length = s.size from rfl, Nat.min_eq_left hle] at hsm
          have hpow : (16 : Nat) ^ pos ≤ 16 ^ 15 := Nat.pow_le_pow_right (by omega) (by omega)
          have hn15 : n < 1152921504606846976 := by omega
          have hor := u64_or_nat (n * 16) (valB (s[pos]'hp)) (by omega) (by omega)
          rw [or_step n _ hv16, show ((n * 16 : Nat) : Int) = (n : Int) * 16 by omega] at hor
          generalize valB (s[pos]'hp) = v at hdi hv16 hnum hor
          have Hnum := Lib.hid hnum
          clear hnum hsm hpow hv
          go_wp2_with (go_at_call 173; refine (hdi _).mono ?_; rintro e w' ⟨rfl, rfl⟩)
          go_roundw
          case rel => exact ⟨pos + 1, n * 16 + v, rfl, by go_num, by omega, Lib.hid Hnum.out.symm⟩
          case measure => simp; omega
        · have hnx : ∀ ty, (Instr.next (.pointer (some ⟨w1.heap.size, 0, none⟩)) true ty).run Tryz.prog (w1.iter s pos) = _ := fun ty => run_next_end w1 s pos ty hp
          obtain rfl : pos = s.size := by omega
          have hn := Hn.out
          rw [take_all, Hm.out] at hn
          subst hn
          go_wp2
          go_ret2
          exact ⟨rfl, hb.trans ((Below.refl _ _).alloc hb.size _)⟩
    · have hd' : allD 16 s.data.toList = false := by simpa using hd
      have hr : hexR s.data.toList = (0, 3) := by unfold hexR; rw [if_neg (fun h => hd h.2)]
      rw [hr]
      rw [hd'] at hdg
      clear hr hsz
      go_enter Tryz.func150, Tryz.ntmps150
      go_wp2_with (go_at_call 174; refine (hdg _).mono ?_; rintro e w1 ⟨rfl, hb⟩; clear hdg)
      go_ret2
      exact ⟨rfl, hb⟩
  · have hr : hexR s.data.toList = (0, 3) := by unfold hexR; rw [if_neg (fun h => h16 (hsz.symm.trans h.1))]
    rw [hr]
    have hb : ((s.size : Int) != 16) = true := by simp; omega
    clear hr hsz
    go_enter Tryz.func150, Tryz.ntmps150
    go_wp2
    go_ret2
    exact ⟨rfl, Below.refl _ _⟩
end Go.Proofs.YtbdimfcdpkldpaaGreatDoor

namespace Go.Proofs.YtbdimfcdpkldpaaGreatDoor
open Go.RowKit

theorem digit_piece : ∀ x, x < 16 → (ByteArray.mk #[48, 49, 50, 51, 52, 53, 54, 55, 56, 57, 97, 98, 99, 100, 101, 102]).extract x (x + 1) = ⟨#[dgB x]⟩ := by decide +kernel
theorem rdigit_any (x : Nat) (hx : x < 16) (w : World) :
    Calls Tryz.prog 67 #[.int .u64 x] w fun e w' => e = .returned (.string ⟨#[dgB x]⟩) ∧ w = w' := by
  go_enter Tryz.func67, Tryz.ntmps67
  go_wp2
  go_ret
  exact ⟨ret_str (digit_piece x hx), rfl⟩
theorem dgB_ten (x : Nat) (h : x < 10) : dgB x = UInt8.ofNat (48 + x) := by unfold dgB; rw [if_pos h]
theorem cons_bytes (c : UInt8) (L : List UInt8) : ByteArray.mk #[c] ++ ByteArray.mk L.toArray = ⟨(c :: L).toArray⟩ := mk_append [c] L
theorem size_mk (L : List UInt8) : (ByteArray.mk L.toArray).size = L.length := by simp [ByteArray.size]

set_option maxHeartbeats 800000 in
theorem RPrint_any (u : Nat) (hu : u < 18446744073709551616) (w : World) :
    Calls Tryz.prog 27 #[.int .u64 u] w fun e w' => e = .returned (.string ⟨(Lib.decDigits u).toArray⟩) ∧ w = w' := by
  have hd := rdigit_any (u % 10) (by omega)
  have hnd : Lib.nDigits u ≤ 20 := by
    by_cases h1 : 1 ≤ u
    · have := Lib.numDigits_eq u h1 hu
      split at this <;> omega
    · rw [Lib.nDigits_small (by omega)]; omega
  have hlen := Lib.decDigits_length u
  rw [show Lib.nDigits u = (Lib.decDigits u).length from hlen.symm] at hnd
  have h0 : (u < 10 → [dgB (u % 10)] = Lib.decDigits u) ∧ (¬ u < 10 → Lib.decDigits u = Lib.decDigits (u / 10) ++ [dgB (u % 10)]) :=
    ⟨fun h => by rw [Lib.decDigits_one h, Nat.mod_eq_of_lt h, dgB_ten u h], fun h => by rw [decDigits_big h, dgB_ten _ (by omega)]⟩
  have hd1 : (ByteArray.mk #[dgB (u % 10)]) = ⟨[dgB (u % 10)].toArray⟩ := rfl
  rw [hd1] at hd
  generalize [dgB (u % 10)] = L0 at hd h0
  generalize Lib.decDigits u = D at h0 hnd
  have H0 := Lib.hid h0
  have Hu := Lib.hid hu
  clear h0 hlen hd1 hu
  go_enter Tryz.func27, Tryz.ntmps27
  go_wp2_with (go_at_call 67; refine (hd _).mono ?_; clear hd; rintro e w1 ⟨rfl, rfl⟩)
  go_loopw [0, 3] (fun vx vs wr => ∃ (x : Nat) (L : List UInt8), wr = w ∧ vx = .int .u64 x ∧ vs = .string ⟨L.toArray⟩ ∧ Hid (x < 18446744073709551616) ∧ Hid ((x < 10 → L = D) ∧ (¬ x < 10 → D = Lib.decDigits (x / 10) ++ L))) (fun vx _ _ => (intOf vx).toNat)
  case atStart => exact ⟨u, L0, rfl, rfl, rfl, Hu, H0⟩
  case round =>
    obtain ⟨x, L, rfl, rfl, rfl, Hx, HL⟩ := hrel
    by_cases hx : x < 10
    · have hx9 : x ≤ 9 := by omega
      go_wp2
      go_ret
      exact ⟨ret_str (by rw [HL.out.1 hx]), rfl⟩
    · have hx9 : 9 < x := by omega
      have hD := HL.out.2 hx
      have hlen := congrArg List.length hD
      rw [List.length_append] at hlen
      have hLs : (ByteArray.mk L.toArray).size ≤ 20 := by rw [size_mk]; omega
      have hwq : IntKind.u64.wrap ((x : Int) / 10) = ((x / 10 : Nat) : Int) := by
        have := Hx.out
        rw [IntKind.wrap_u64]; omega
      have hq : x / 10 < 18446744073709551616 := Nat.lt_of_le_of_lt (Nat.div_le_self _ _) Hx.out
      have hqx : x / 10 < x := by omega
      generalize x / 10 = q at hwq hq hqx hD
      have hd := rdigit_any (q % 10) (by omega)
      have hcons := cons_bytes (dgB (q % 10)) L
      have hnew : (q < 10 → dgB (q % 10) :: L = D) ∧ (¬ q < 10 → D = Lib.decDigits (q / 10) ++ dgB (q % 10) :: L) := by
        refine ⟨fun h => ?_, fun h => ?_⟩
        · rw [hD, Lib.decDigits_one h, Nat.mod_eq_of_lt h, dgB_ten _ h]; rfl
        · rw [hD, decDigits_big h, dgB_ten _ (by omega)]; simp
      have Hq := Lib.hid hq
      have Hnew := Lib.hid hnew
      have Hcons := Lib.hid hcons
      have hs1 : (ByteArray.mk #[dgB (q % 10)]).size = 1 := rfl
      clear hD hlen hnew hcons hq
      go_wp2_with (go_at_call 67; refine (hd _).mono ?_; clear hd; rintro e w1 ⟨rfl, rfl⟩)
      go_roundw
      case rel => exact ⟨q, dgB (q % 10) :: L, trivial, by go_num, by rw [Hcons.out], Hq, Hnew⟩
      case measure => simp [intOf]; go_num

theorem hexN_step (k x : Nat) (h : k < 16) : hexN (16 - k) x = hexN (16 - (k + 1)) (x / 16) ++ [dgB (x % 16)] := by
  rw [show 16 - k = (16 - (k + 1)) + 1 by omega, hexN]

set_option maxHeartbeats 800000 in
theorem RHex_any (u : Nat) (hu : u < 18446744073709551616) (w : World) :
    Calls Tryz.prog 28 #[.int .u64 u] w fun e w' => e = .returned (.string ⟨(hexN 16 u).toArray⟩) ∧ w = w' := by
  have Hu := Lib.hid hu
  generalize hD : hexN 16 u = D
  have HD := Lib.hid hD
  clear hu hD
  go_enter Tryz.func28, Tryz.ntmps28
  go_wp2
  go_loopw [0, 3, 4] (fun vx vs vk wr => ∃ (x k : Nat) (L : List UInt8), wr = w ∧ vx = .int .u64 x ∧ vs = .string ⟨L.toArray⟩ ∧ vk = .int .i64 k ∧ k ≤ 16 ∧ Hid (L.length = k) ∧ Hid (x < 18446744073709551616) ∧ Hid (hexN (16 - k) x ++ L = D)) (fun _ _ vk _ => 16 - (intOf vk).toNat)
  case atStart => exact ⟨u, 0, [], rfl, rfl, rfl, rfl, by omega, Lib.hid rfl, Hu, Lib.hid (by rw [← HD.out]; simp)⟩
  case round =>
    obtain ⟨x, k, L, rfl, rfl, rfl, rfl, hk, Hl, Hx, HL⟩ := hrel
    by_cases hk16 : k < 16
    · have hwq : IntKind.u64.wrap ((x : Int) / 16) = ((x / 16 : Nat) : Int) := by
        have := Hx.out
        rw [IntKind.wrap_u64]; omega
      have hq : x / 16 < 18446744073709551616 := Nat.lt_of_le_of_lt (Nat.div_le_self _ _) Hx.out
      have hD := HL.out
      rw [hexN_step k x hk16] at hD
      have hd := rdigit_any (x % 16) (by omega)
      generalize x / 16 = q at hwq hq hD
      have hcons := cons_bytes (dgB (x % 16)) L
      have hnew : hexN (16 - (k + 1)) q ++ dgB (x % 16) :: L = D := by rw [← hD]; simp
      have hLs : (ByteArray.mk L.toArray).size ≤ 20 := by rw [size_mk, Hl.out]; omega
      have Hl2 := Lib.hid (show (dgB (x % 16) :: L).length = k + 1 by rw [List.length_cons, Hl.out])
      have Hq := Lib.hid hq
      have Hnew := Lib.hid hnew
      have Hcons := Lib.hid hcons
      have hs1 : (ByteArray.mk #[dgB (x % 16)]).size = 1 := rfl
      clear hD hnew hcons hq Hl HL
      go_wp2_with (go_at_call 67; refine (hd _).mono ?_; clear hd; rintro e w1 ⟨rfl, rfl⟩)
      go_roundw
      case rel => exact ⟨q, k + 1, dgB (x % 16) :: L, trivial, by go_num, by rw [Hcons.out], by go_num, by omega, Hl2, Hq, Hnew⟩
      case measure => simp [intOf]; go_num
    · obtain rfl : k = 16 := by omega
      have hL := HL.out
      go_wp2
      go_ret
      exact ⟨ret_str (by rw [← hL]; rfl), rfl⟩

set_option maxHeartbeats 800000 in
theorem RReadHex_any (s : ByteArray) (w : World) :
    Calls Tryz.prog 123 #[.string s] w fun e w' => e = .returned (.tuple #[.int .u64 ((hexR s.data.toList).1 : Nat), .int .i64 ((hexR s.data.toList).2 : Nat)]) ∧ w = w' := by
  have hsz : s.data.toList.length = s.size := rfl
  by_cases h16 : s.size = 16
  · have hr1 : allD 16 s.data.toList = true → hexR s.data.toList = (num 16 s.data.toList, 0) := fun hd => by unfold hexR; rw [if_pos ⟨hsz.trans h16, hd⟩]
    have hr2 : allD 16 s.data.toList = false → hexR s.data.toList = (0, 3) := fun hd => by unfold hexR; rw [if_neg (fun h => by rw [hd] at h; exact absurd h.2 (by decide))]
    generalize hexR s.data.toList = R at hr1 hr2 ⊢
    have Hr1 := Lib.hid hr1
    have Hr2 := Lib.hid hr2
    clear hr1 hr2 hsz
    have hle16 : s.size ≤ 16 := by omega
    have hge16 : 16 ≤ s.size := by omega
    have hb : ((s.size : Int) != 16) = false := by simp; omega
    go_enter Tryz.func123, Tryz.ntmps123
    go_wp2
    clear h16 hb
    go_loopw [4, 5] (fun x vk w' => ∃ k n : Nat, w' = w ∧ x = .int .u64 n ∧ vk = .int .i64 k ∧ k ≤ 16 ∧ Hid (n = num 16 (s.data.toList.take k)) ∧ Hid (allD 16 (s.data.toList.take k) = true)) (fun _ vk _ => 16 - (intOf vk).toNat)
    case atStart => exact ⟨0, 0, rfl, rfl, rfl, by omega, Lib.hid rfl, Lib.hid rfl⟩
    case round =>
      obtain ⟨k, n, rfl, rfl, rfl, hk, Hn, Hd⟩ := hrel
      by_cases hlt : k < 16
      · have hks : k < s.size := by omega
        have hval := value_any (s[k]'hks)
        by_cases hv : valB (s[k]'hks) < 16
        · have hnum := num_snoc 16 (s.data.toList.take k) (s[k]'hks)
          rw [← take_next s k hks, ← Hn.out] at hnum
          have hd2 : allD 16 (s.data.toList.take (k + 1)) = true := by rw [take_next s k hks, allD_append, allD_one, Hd.out, decide_eq_true hv]; rfl
          have hsm := num_lt 16 _ Hd.out
          rw [← Hn.out, List.length_take, show s.data.toList.length = s.size from rfl, Nat.min_eq_left (by omega)] at hsm
          have hpow : (16 : Nat) ^ k ≤ 16 ^ 15 := Nat.pow_le_pow_right (by omega) (by omega)
          have hn15 : n < 1152921504606846976 := by omega
          have hv15 : valB (s[k]'hks) ≤ 15 := by omega
          have Hnum := Lib.hid hnum
          have Hd2 := Lib.hid hd2
          generalize valB (s[k]'hks) = v at hval hv hv15 Hnum
          have hwm : IntKind.u64.wrap ((n : Int) * 16) = (n : Int) * 16 := by rw [IntKind.wrap_u64]; omega
          have hwa : IntKind.u64.wrap ((n : Int) * 16 + (v : Int)) = ((n * 16 + v : Nat) : Int) := by rw [IntKind.wrap_u64]; omega
          clear hnum hsm hpow hd2 hn15 hv
          go_wp2_with (go_at_call 154; refine (hval _).mono ?_; rintro e w' ⟨rfl, rfl⟩)
          go_roundw
          case rel => exact ⟨k + 1, n * 16 + v, trivial, by go_num, by go_num, by omega, Lib.hid Hnum.out.symm, Hd2⟩
          case measure => simp [intOf]; go_num
        · have hbad : allD 16 s.data.toList = false := by
            rw [← List.take_append_drop k s.data.toList, allD_append, drop_at s k hks, allD_cons, decide_eq_false hv]; simp
          have hR := Hr2.out hbad
          have hv15 : 15 < valB (s[k]'hks) := by omega
          subst hR
          generalize valB (s[k]'hks) = v at hval hv hv15
          clear hbad
          go_wp2_with (go_at_call 154; refine (hval _).mono ?_; rintro e w' ⟨rfl, rfl⟩)
          go_ret2
          exact ⟨rfl, rfl⟩
      · have hks : s.size = k := by omega
        have hall := Hd.out
        have hn := Hn.out
        rw [← hks, take_all] at hall hn
        have hR := Hr1.out hall
        subst hR
        subst hn
        clear hall Hd Hn hks
        go_wp2
        go_ret2
        exact ⟨rfl, rfl⟩
  · have hr : hexR s.data.toList = (0, 3) := by unfold hexR; rw [if_neg (fun h => h16 (hsz.symm.trans h.1))]
    rw [hr]
    have hb : ((s.size : Int) != 16) = true := by simp; omega
    clear hr hsz
    go_enter Tryz.func123, Tryz.ntmps123
    go_wp2
    go_ret2
    exact ⟨rfl, rfl⟩
end Go.Proofs.YtbdimfcdpkldpaaGreatDoor

namespace Go.Proofs.YtbdimfcdpkldpaaGreatDoor
open Go.RowKit

/-- A text as a value. -/
def sV (l : List UInt8) : Value := .string ⟨l.toArray⟩
theorem sV_data (s : ByteArray) : sV s.data.toList = .string s := rfl
theorem infoS : (Tryz.prog.info? 9).map (fun i => (i.zero, i.size, i.bytes)) = some (some (.string ⟨#[]⟩), 1, 16) := by kernel_rfl

theorem clone_any (s : ByteArray) (hs : s.size ≤ 4000) (w : World) :
    Calls Tryz.prog 148 #[.string s] w fun e w' => e = .returned (.string s) ∧ Below w.heap.size w w' := by
  have h := Tryz.stringslite_Clone s w (by omega)
  clear hs
  go_enter Tryz.func148, Tryz.ntmps148
  go_wp2_with (go_at_call 171; refine h.mono ?_; rintro e w' ⟨rfl, hb⟩)
  go_ret
  exact ⟨rfl, hb⟩

/-- A row stays one's own where every block of cells stays as it was. -/
theorem own_keep {w w' : World} {B : Nat} {e : TypeId} {size n : Nat} {v : Value} {xs : List Value} (h : w.ownsRow B e size v n xs)
    (hk : ∀ (g : Nat) cs, w.heap[g]? = some (.cells cs e (0, 0)) → w'.heap[g]? = some (.cells cs e (0, 0))) : w'.ownsRow B e size v n xs :=
  ⟨h.1, h.2.imp id fun ⟨g, cap, cur, hv, hb, hg, r⟩ => ⟨g, cap, cur, hv, hb, hk g cur hg, r⟩⟩
theorem ownsRow_below {w w' : World} {base B : Nat} {e : TypeId} {size : Nat} {v : Value} {n : Nat} {xs : List Value} (h : w.ownsRow base e size v n xs) (hb : Below B w w') (hB : w.heap.size ≤ B) : w'.ownsRow base e size v n xs :=
  own_keep h fun g cs hg => by
    have := (Array.getElem?_eq_some_iff.1 hg).1
    rw [hb.block g (by omega)]; exact hg
theorem own_iter {w : World} {B : Nat} {e : TypeId} {size n : Nat} {v : Value} {xs : List Value} {k : Nat} {s : ByteArray} {pos : Nat} (h : w.ownsRow B e size v n xs) (hit : w.heap[k]? = some (.stringIter s pos)) (pos' : Nat) :
    (w.iterAt k s pos').ownsRow B e size v n xs :=
  own_keep h fun g cs hg => by
    have hne : g ≠ k := by rintro rfl; simp [hit] at hg
    rw [Lib.iterAt_other _ _ _ _ _ hne]; exact hg
theorem iter_free {w : World} {B : Nat} {e : TypeId} {size n : Nat} {v : Value} {xs : List Value} {k : Nat} {s : ByteArray} {pos : Nat} (h : w.ownsRow B e size v n xs) (hit : w.heap[k]? = some (.stringIter s pos)) : some k ≠ v.ownBlock := by
  intro hke
  obtain ⟨_, ⟨rfl, _⟩ | ⟨g, cap, cur, rfl, _, hg, _⟩⟩ := h
  · cases hke
  · cases hke
    simp [hit] at hg
theorem wl_snoc (ws : List (List UInt8)) (l : List UInt8) : ws.map sV ++ [sV l] = (ws ++ [l]).map sV := by rw [List.map_append]; rfl
theorem nil_of_size (s : ByteArray) (h : s.size = 0) : s.data.toList = [] := List.length_eq_zero_iff.1 h

set_option maxHeartbeats 800000 in
theorem addWord_any (B : Nat) (v : Value) (ws : List (List UInt8)) (s : ByteArray) (hs : s.size ≤ 4000) (hn : ws.length ≤ 4000) (w : World) (hB : B ≤ w.heap.size) (hown : w.ownsRow B 9 1 v ws.length (ws.map sV)) :
    Calls Tryz.prog 119 #[v, .string s] w fun e w' => ∃ v', e = .returned v' ∧ w'.ownsRow B 9 1 v' (addW ws s.data.toList).length ((addW ws s.data.toList).map sV) ∧ w.grownBy w' v.ownBlock := by
  obtain ⟨i0, hi, hz0, hz1, hz2⟩ := info_parts infoS
  by_cases h0 : s.size = 0
  · have he : s = ⟨#[]⟩ := by
      apply ByteArray.ext
      exact Array.eq_empty_of_size_eq_zero h0
    subst he
    rw [show (ByteArray.mk #[]).data.toList = [] from rfl, addW_nil]
    go_enter Tryz.func119, Tryz.ntmps119
    go_wp2
    go_ret
    exact ⟨_, rfl, hown, ⟨rfl, rfl, rfl, Nat.le_refl _, fun _ _ _ => rfl⟩⟩
  · have hne' : s.data.toList ≠ [] := by
      intro e
      apply h0
      have : s.data.toList.length = s.size := rfl
      rw [← this, e]; rfl
    have hne : ¬ s.toList = [] := by rw [Lib.toList_data]; exact hne'
    have hem : s.toList.isEmpty = false := by
      cases hl : s.toList with
      | nil => exact absurd hl hne
      | cons c r => rfl
    rw [addW_some ws hne']
    have HO := Lib.hid hown
    have hc := clone_any s hs w
    clear hown hne' h0
    go_enter Tryz.func119, Tryz.ntmps119
    go_wp2_with (first
      | (go_at_call 148; refine hc.mono ?_; clear hc; rintro e w1 ⟨rfl, hb1⟩; have hown1 := ownsRow_below HO.out hb1 (Nat.le_refl _); have hs1 := hb1.size)
      | (at_builtin; refine wpList_append_own _ rfl _ _ 77 rfl B 9 i0 (.string ⟨#[]⟩) 1 16 Tryz.underlying77 hi hz0 hz1 hz2 rfl (by decide) _ _ _ rfl (hown1.alloc _) ⟨w1.heap.size, 0, none⟩ 1 1 [.string s] rfl rfl (cell_one_new _ _ _) (by simp [Value.oneCell']) (by unfold maxLen; omega) (by omega) (by simp; omega) ?_; intro v' w2 hown2 hgrow _))
    go_ret
    refine ⟨v', rfl, ?_, ?_⟩
    · rw [List.length_append, ← wl_snoc, sV_data]; exact hown2
    · exact ⟨hgrow.os.trans hb1.os, hgrow.tape.trans hb1.tape, hgrow.output.trans hb1.output, by have := hgrow.size; simp at this; omega, fun k hk hne => ((hgrow.block k (by simp; omega) hne).trans (Below.heap_alloc _ _ _ (by omega))).trans (hb1.block k hk)⟩

theorem get_bang (s : ByteArray) (i : Nat) (h : i < s.size) : s.get! i = s[i]'h := get_at s i h
/-- What a rune's bytes are: either the blank alone, or no blank among them. -/
theorem high_bytes (s : ByteArray) (pos : Nat) (hp : pos < s.size) (ha : ¬ (s[pos]'hp).toNat < 128) : ∀ j, j < (Utf8.decode s pos).2 → pos + j < s.size ∧ 128 ≤ (s.get! (pos + j)).toNat := by
  have h0 : 128 ≤ (s.get! pos).toNat := by rw [get_bang s pos hp]; omega
  simp only [Utf8.decode, Nat.add_zero]
  have hn : ¬ (s.get! pos).toNat < 128 := by omega
  intro j
  rw [if_neg hn]
  repeat' split
  all_goals intro hj
  all_goals simp only [Bool.and_eq_true, decide_eq_true_eq, beq_iff_eq] at *
  all_goals (rcases (show j = 0 ∨ j = 1 ∨ j = 2 ∨ j = 3 by omega) with rfl | rfl | rfl | rfl)
  all_goals first
    | (exact ⟨by omega, by simpa using h0⟩)
    | (refine ⟨by omega, by omega⟩)
    | omega
theorem width_in (s : ByteArray) (pos : Nat) (hp : pos < s.size) : pos + (Utf8.decode s pos).2 ≤ s.size := by
  by_cases ha : (s[pos]'hp).toNat < 128
  · rw [decode_ascii s pos hp ha]; show pos + 1 ≤ _; omega
  · have h1 := width_pos s pos hp
    have := (high_bytes s pos hp ha ((Utf8.decode s pos).2 - 1) (by omega)).1
    omega
theorem rune_cases (s : ByteArray) (pos : Nat) (hp : pos < s.size) :
    ((Utf8.decode s pos).1 = 32 ∧ s[pos]'hp = 32 ∧ (Utf8.decode s pos).2 = 1) ∨ ((Utf8.decode s pos).1 ≠ 32 ∧ ∀ c ∈ (s.data.toList.drop pos).take (Utf8.decode s pos).2, c ≠ 32) := by
  by_cases ha : (s[pos]'hp).toNat < 128
  · rw [decode_ascii s pos hp ha]
    by_cases h : s[pos]'hp = 32
    · left
      exact ⟨by show (s[pos]'hp).toNat = 32; rw [h]; rfl, h, rfl⟩
    · right
      refine ⟨fun e => h (UInt8.toNat_inj.1 e), ?_⟩
      rw [drop_at s pos hp]
      intro c hc
      have : c = s[pos]'hp := by simpa using hc
      rw [this]; exact h
  · right
    refine ⟨fun e => by have := (decode_high s pos hp (by omega)).1; omega, ?_⟩
    intro c hc
    obtain ⟨j, hj, rfl⟩ := List.mem_iff_getElem.1 hc
    have hj' : j < (Utf8.decode s pos).2 := by rw [List.length_take] at hj; omega
    obtain ⟨h1, h2⟩ := high_bytes s pos hp ha j hj'
    rw [get_bang s _ h1] at h2
    rw [List.getElem_take, List.getElem_drop]
    intro e
    have : (s[pos + j]'h1).toNat = 32 := by
      rw [show s[pos + j]'h1 = s.data.toList[pos + j]'(by show pos + j < s.data.toList.length; exact h1) from rfl, e]; rfl
    omega

theorem cur_grow (l : List UInt8) (st pos k : Nat) (h : st ≤ pos) : (l.drop st).take (pos - st) ++ (l.drop pos).take k = (l.drop st).take (pos + k - st) := by
  rw [show pos + k - st = (pos - st) + k by omega, List.take_add, List.drop_drop, show st + (pos - st) = pos by omega]
theorem extract_list (s : ByteArray) (a b : Nat) : (s.extract a b).data.toList = (s.data.toList.drop a).take (b - a) := Lib.extract_data s a b

set_option maxHeartbeats 1600000 in
theorem Words_any (s : ByteArray) (hs : s.size ≤ 4000) (w : World) :
    Calls Tryz.prog 73 #[.string s] w fun e w' => ∃ v, e = .returned v ∧ w'.ownsRow w.heap.size 9 1 v (wordsGo [] s.data.toList).length ((wordsGo [] s.data.toList).map sV) ∧ Below w.heap.size w w' := by
  generalize hD : wordsGo [] s.data.toList = D
  have HD := Lib.hid hD
  clear hD
  go_enter Tryz.func73, Tryz.ntmps73
  go_wp2
  go_loopw [3, 4] (fun v vst wr => ∃ (pos st : Nat) (ws : List (List UInt8)), vst = .int .i64 st ∧ st ≤ pos ∧ pos ≤ s.size ∧ ws.length ≤ pos ∧ wr.heap[w.heap.size]? = some (.stringIter s pos) ∧ Below w.heap.size w wr ∧
    wr.ownsRow w.heap.size 9 1 v ws.length (ws.map sV) ∧ Hid (ws ++ wordsGo ((s.data.toList.drop st).take (pos - st)) (s.data.toList.drop pos) = D)) (fun _ _ wr => s.size - wr.iterPos w.heap.size)
  case atStart => exact ⟨0, 0, [], rfl, by omega, by omega, by simp, World.iter_heap w s 0, (Below.refl _ _).alloc (Nat.le_refl _) _, World.ownsRow_nil _ _ _ _, Lib.hid (by simpa using HD.out)⟩
  case round =>
    obtain ⟨pos, st, ws, rfl, hsp, hps, hwl, hit, hb, hown, HW⟩ := hrel
    by_cases hp : pos < s.size
    · have hnx : ∀ ty, (Instr.next (.pointer (some ⟨w.heap.size, 0, none⟩)) true ty).run Tryz.prog wr = _ := fun ty => Lib.run_next_any_at wr w.heap.size s pos ty hit hp
      have hwd := width_pos s pos hp
      have hwi := width_in s pos hp
      have hrc := rune_cases s pos hp
      have hdr := List.take_append_drop (Utf8.decode s pos).2 (s.data.toList.drop pos)
      rw [List.drop_drop] at hdr
      have hitp : wr.iterPos w.heap.size = pos := by simp [World.iterPos, hit]
      have hbi := Lib.below_iterAt hb (k := w.heap.size) (Nat.le_refl _) s (pos + (Utf8.decode s pos).2)
      have hiti := Lib.iterAt_heap wr w.heap.size s pos (pos + (Utf8.decode s pos).2) hit
      have howni : (wr.iterAt w.heap.size s (pos + (Utf8.decode s pos).2)).ownsRow w.heap.size 9 1 _ ws.length (ws.map sV) := own_iter hown hit _
      generalize hW2 : wr.iterAt w.heap.size s (pos + (Utf8.decode s pos).2) = W2 at hnx hbi hiti howni
      clear hW2
      generalize (Utf8.decode s pos).1 = R at hnx hrc
      generalize (Utf8.decode s pos).2 = K at hnx hrc hwd hwi hdr hiti
      rcases hrc with ⟨rfl, h32, rfl⟩ | ⟨hR, hch⟩
      · have hnew : addW ws ((s.data.toList.drop st).take (pos - st)) ++ wordsGo ((s.data.toList.drop (pos + 1)).take (pos + 1 - (pos + 1))) (s.data.toList.drop (pos + 1)) = D := by
          rw [← HW.out, drop_at s pos hp, h32, go_blank, Nat.sub_self, List.take_zero]
        have hsz : (s.extract st pos).size ≤ 4000 := by rw [ByteArray.size_extract]; omega
        have hadd := addWord_any w.heap.size _ ws (s.extract st pos) hsz (by omega) W2 hbi.size howni
        rw [extract_list] at hadd
        have hlen : (addW ws ((s.data.toList.drop st).take (pos - st))).length ≤ ws.length + 1 := by
          unfold addW; split
          · omega
          · simp
        generalize addW ws ((s.data.toList.drop st).take (pos - st)) = ws2 at hnew hadd hlen
        have HN := Lib.hid hnew
        clear hnew h32 hdr HW hsz
        go_wp2_with (go_at_call 119; refine hadd.mono ?_; clear hadd; rintro e w3 ⟨v3, rfl, hown3, hgrow⟩)
        have hit3 := (hgrow.block w.heap.size (Array.getElem?_eq_some_iff.1 hiti).1 (iter_free howni hiti)).trans hiti
        have hb3 := hbi.grown hgrow hbi.size (fun k hk => (howni.lt k hk).1)
        go_roundw
        case rel => exact ⟨pos + 1, pos + 1, ws2, by go_num, by omega, by omega, by omega, hit3, hb3, hown3, HN⟩
        case measure => simp [World.iterPos, hit3, hit]; omega
      · have hR2 : (((R : Nat) : Int) == 32) = false := by rw [beq_eq_false_iff_ne]; omega
        have hnew : ws ++ wordsGo ((s.data.toList.drop st).take (pos + K - st)) (s.data.toList.drop (pos + K)) = D := by
          rw [← HW.out, ← hdr, go_chunk _ _ _ hch, cur_grow _ _ _ _ hsp]
        have HN := Lib.hid hnew
        clear hnew hch hdr hR HW
        go_wp2
        go_roundw
        case rel => exact ⟨pos + K, st, ws, rfl, by omega, by omega, by omega, hiti, hbi, howni, HN⟩
        case measure => simp [World.iterPos, hiti, hit]; omega
    · have hnx : ∀ ty, (Instr.next (.pointer (some ⟨w.heap.size, 0, none⟩)) true ty).run Tryz.prog wr = _ := fun ty => Lib.run_next_end_at wr w.heap.size s pos ty hit hp
      obtain rfl : pos = s.size := by omega
      have hsz : (s.extract st s.size).size ≤ 4000 := by rw [ByteArray.size_extract]; omega
      have hadd := addWord_any w.heap.size _ ws (s.extract st s.size) hsz (by omega) wr hb.size hown
      have hfin : addW ws ((s.data.toList.drop st).take (s.size - st)) = D := by
        rw [← HW.out, drop_end s s.size hp, go_end]
      rw [extract_list, hfin] at hadd
      clear hfin hsz HW
      go_wp2_with (go_at_call 119; refine hadd.mono ?_; clear hadd; rintro e w3 ⟨v3, rfl, hown3, hgrow⟩)
      have hb3 := hb.grown hgrow hb.size (fun k hk => (hown.lt k hk).1)
      go_ret
      exact ⟨v3, rfl, hown3, hb3⟩
end Go.Proofs.YtbdimfcdpkldpaaGreatDoor

namespace Go.Proofs.YtbdimfcdpkldpaaGreatDoor
open Go.RowKit

/-- A slice of texts that reads as a list. -/
def ReadsS (w : World) (v : Value) (xs : List (List UInt8)) : Prop :=
  ∃ p c, v = .slice p xs.length c ∧ (xs = [] ∨ ∃ b off, p = some ⟨b, off, none⟩ ∧ b < w.heap.size ∧ ∀ j, j < xs.length → w.cell? ⟨b, off + j, none⟩ = some (sV (xs.getD j [])))
theorem ReadsS.below {w w' : World} {v : Value} {xs : List (List UInt8)} {B : Nat} (h : ReadsS w v xs) (hb : Below B w w') (hB : w.heap.size ≤ B) : ReadsS w' v xs := by
  obtain ⟨p, c, rfl, h | ⟨b, off, rfl, hlt, hc⟩⟩ := h
  · exact ⟨p, c, rfl, .inl h⟩
  · refine ⟨_, c, rfl, .inr ⟨b, off, rfl, Nat.lt_of_lt_of_le hlt hb.size, fun j hj => ?_⟩⟩
    rw [hb.cell (p := ⟨b, off + j, none⟩) (Nat.lt_of_lt_of_le hlt hB)]
    exact hc j hj
theorem ReadsS.of_own {w : World} {B : Nat} {v : Value} {xs : List (List UInt8)} (h : w.ownsRow B 9 1 v xs.length (xs.map sV)) : ReadsS w v xs := by
  obtain ⟨hl, ⟨rfl, h0⟩ | ⟨g, cap, cur, rfl, hb, hg, hn, hm, hs, ht⟩⟩ := h
  · have : xs = [] := List.length_eq_zero_iff.1 h0
    subst this
    exact ⟨none, 0, rfl, .inl rfl⟩
  · refine ⟨_, cap, rfl, .inr ⟨g, 0, rfl, (Array.getElem?_eq_some_iff.1 hg).1, fun j hj => ?_⟩⟩
    rw [cell_of_row w g _ cur 9 (0, 0) hg, Nat.zero_add]
    have h1 : (cur.toList.take (xs.length * 1))[j]? = (xs.map sV)[j]? := by rw [ht]
    rw [Nat.mul_one, List.getElem?_take_of_lt hj] at h1
    rw [Array.getElem?_toList] at h1
    rw [h1]
    simp [hj]

theorem take_word (xs : List (List UInt8)) (k : Nat) (h : k < xs.length) : xs.take (k + 1) = xs.take k ++ [xs.getD k []] := by
  rw [List.take_succ_eq_append_getElem h]; simp [h]
theorem mk_append3 (a b c : List UInt8) : ByteArray.mk a.toArray ++ ByteArray.mk b.toArray ++ ByteArray.mk c.toArray = ⟨(a ++ (b ++ c)).toArray⟩ := by
  rw [mk_append, mk_append, List.append_assoc]
set_option maxHeartbeats 1600000 in
theorem RWords_any (s : ByteArray) (hs : s.size ≤ 4000) (w : World) :
    Calls Tryz.prog 79 #[.string s] w fun e w' => ∃ v, e = .returned v ∧ w'.ownsRow w.heap.size 9 1 v (wordsGo [] s.data.toList).length ((wordsGo [] s.data.toList).map sV) ∧ Below w.heap.size w w' := by
  obtain ⟨i0, hi, hz0, hz1, hz2⟩ := info_parts infoS
  generalize hD : wordsGo [] s.data.toList = D
  have HD := Lib.hid hD
  clear hD
  go_enter Tryz.func79, Tryz.ntmps79
  go_wp2
  go_loopw [3, 4, 5] (fun v vst vi wr => ∃ (i st : Nat) (ws : List (List UInt8)), vi = .int .i64 i ∧ vst = .int .i64 st ∧ i ≤ s.size + 1 ∧ ws.length ≤ i ∧ (i ≤ s.size → st ≤ i) ∧ Below w.heap.size w wr ∧
    wr.ownsRow w.heap.size 9 1 v ws.length (ws.map sV) ∧ Hid ((i ≤ s.size → ws ++ wordsGo ((s.data.toList.drop st).take (i - st)) (s.data.toList.drop i) = D) ∧ (¬ i ≤ s.size → ws = D))) (fun _ _ vi _ => s.size + 1 - (intOf vi).toNat)
  case atStart => exact ⟨0, 0, [], rfl, rfl, by omega, by simp, fun _ => by omega, Below.refl _ _, World.ownsRow_nil _ _ _ _, Lib.hid ⟨fun _ => by simpa using HD.out, fun h => by omega⟩⟩
  case round =>
    obtain ⟨i, st, ws, rfl, rfl, his, hwl, hsi0, hb, hown, HW⟩ := hrel
    by_cases hle : i ≤ s.size
    · have hsi := hsi0 hle
      have hW := HW.out.1 hle
      clear HW hsi0
      by_cases hlt : i < s.size
      · have hix := run_ix s i hlt
        have hdr := drop_at s i hlt
        by_cases h32 : s[i]'hlt = 32
        · have hbl : ((((s[i]'hlt).toNat : Nat) : Int) != 32) = false := by rw [h32]; rfl
          rw [hdr, h32, go_blank] at hW
          by_cases hst : st < i
          · obtain ⟨cur, hcur⟩ : ∃ cur, (s.data.toList.drop st).take (i - st) = cur := ⟨_, rfl⟩
            have hex : Value.string (s.extract st i) = sV cur := by rw [← hcur, ← extract_list, sV_data]
            have hcl : cur ≠ [] := by
              intro e
              have := congrArg List.length hcur
              rw [e, List.length_take, List.length_drop, show s.data.toList.length = s.size from rfl] at this
              simp at this; omega
            rw [hcur, addW_some ws hcl] at hW
            have HN : Hid ((i + 1 ≤ s.size → ws ++ [cur] ++ wordsGo ((s.data.toList.drop (i + 1)).take (i + 1 - (i + 1))) (s.data.toList.drop (i + 1)) = D) ∧ (¬ i + 1 ≤ s.size → ws ++ [cur] = D)) :=
              Lib.hid ⟨fun _ => by rw [Nat.sub_self, List.take_zero]; exact hW, fun h => absurd hlt h⟩
            have Hex := Lib.hid hex
            clear hW hdr hcur hcl hex h32
            go_wp2_with (at_builtin; refine wpList_append_own _ rfl _ _ 77 rfl w.heap.size 9 i0 (.string ⟨#[]⟩) 1 16 Tryz.underlying77 hi hz0 hz1 hz2 rfl (by decide) _ _ _ rfl (hown.alloc _) ⟨wr.heap.size, 0, none⟩ 1 1 [.string (s.extract st i)] rfl rfl (cell_one_new _ _ _) (by simp [Value.oneCell']) (by unfold maxLen; omega) (by omega) (by have := hb.size; simp; omega) ?_; intro v' w1 hown' hgrow _)
            have hb1 := (hb.alloc hb.size (.cells #[.string (s.extract st i)] 9)).grown hgrow (by have := hb.size; simp; omega) (fun k hk => (hown.lt k hk).1)
            rw [Hex.out, wl_snoc] at hown'
            go_roundw
            case rel => exact ⟨i + 1, i + 1, ws ++ [cur], by go_num, by go_num, by omega, by simp; omega, fun _ => by omega, hb1, by rw [List.length_append]; exact hown', HN⟩
            case measure => (simp [intOf] <;> go_num)
          · have hcur : (s.data.toList.drop st).take (i - st) = [] := by rw [show i - st = 0 by omega, List.take_zero]
            rw [hcur, addW_nil] at hW
            have HN : Hid ((i + 1 ≤ s.size → ws ++ wordsGo ((s.data.toList.drop (i + 1)).take (i + 1 - (i + 1))) (s.data.toList.drop (i + 1)) = D) ∧ (¬ i + 1 ≤ s.size → ws = D)) :=
              Lib.hid ⟨fun _ => by rw [Nat.sub_self, List.take_zero]; exact hW, fun h => absurd hlt h⟩
            clear hW hdr hcur h32
            go_wp2
            go_roundw
            case rel => exact ⟨i + 1, i + 1, ws, by go_num, by go_num, by omega, by omega, fun _ => by omega, hb, hown, HN⟩
            case measure => (simp [intOf] <;> go_num)
        · have hbl : ((((s[i]'hlt).toNat : Nat) : Int) != 32) = true := by
            rw [bne_iff_ne]
            intro e
            exact h32 (UInt8.toNat_inj.1 (by show (s[i]'hlt).toNat = 32; omega))
          have hnew : ws ++ wordsGo ((s.data.toList.drop st).take (i + 1 - st)) (s.data.toList.drop (i + 1)) = D := by
            have hc1 := cur_grow s.data.toList st i 1 hsi
            rw [hdr] at hc1
            rw [hdr, wordsGo, if_neg h32] at hW
            rw [← hc1]
            simpa using hW
          have HN : Hid ((i + 1 ≤ s.size → ws ++ wordsGo ((s.data.toList.drop st).take (i + 1 - st)) (s.data.toList.drop (i + 1)) = D) ∧ (¬ i + 1 ≤ s.size → ws = D)) :=
            Lib.hid ⟨fun _ => hnew, fun h => absurd hlt h⟩
          clear hW hdr hnew h32
          go_wp2
          go_roundw
          case rel => exact ⟨i + 1, st, ws, by go_num, rfl, by omega, by omega, fun _ => by omega, hb, hown, HN⟩
          case measure => (simp [intOf] <;> go_num)
      · obtain rfl : i = s.size := by omega
        rw [drop_end s s.size hlt, go_end] at hW
        by_cases hst : st < s.size
        · obtain ⟨cur, hcur⟩ : ∃ cur, (s.data.toList.drop st).take (s.size - st) = cur := ⟨_, rfl⟩
          have hex : Value.string (s.extract st s.size) = sV cur := by rw [← hcur, ← extract_list, sV_data]
          have hcl : cur ≠ [] := by
            intro e
            have := congrArg List.length hcur
            rw [e, List.length_take, List.length_drop, show s.data.toList.length = s.size from rfl] at this
            simp at this; omega
          rw [hcur, addW_some ws hcl] at hW
          have HN : Hid ((s.size + 1 ≤ s.size → ws ++ [cur] ++ wordsGo ((s.data.toList.drop (s.size + 1)).take (s.size + 1 - (s.size + 1))) (s.data.toList.drop (s.size + 1)) = D) ∧ (¬ s.size + 1 ≤ s.size → ws ++ [cur] = D)) :=
            Lib.hid ⟨fun h => by omega, fun _ => hW⟩
          have Hex := Lib.hid hex
          clear hW hcur hcl hex
          go_wp2_with (at_builtin; refine wpList_append_own _ rfl _ _ 77 rfl w.heap.size 9 i0 (.string ⟨#[]⟩) 1 16 Tryz.underlying77 hi hz0 hz1 hz2 rfl (by decide) _ _ _ rfl (hown.alloc _) ⟨wr.heap.size, 0, none⟩ 1 1 [.string (s.extract st s.size)] rfl rfl (cell_one_new _ _ _) (by simp [Value.oneCell']) (by unfold maxLen; omega) (by omega) (by have := hb.size; simp; omega) ?_; intro v' w1 hown' hgrow _)
          have hb1 := (hb.alloc hb.size (.cells #[.string (s.extract st s.size)] 9)).grown hgrow (by have := hb.size; simp; omega) (fun k hk => (hown.lt k hk).1)
          rw [Hex.out, wl_snoc] at hown'
          go_roundw
          case rel => exact ⟨s.size + 1, s.size + 1, ws ++ [cur], by go_num, by go_num, by omega, by simp; omega, fun _ => by omega, hb1, by rw [List.length_append]; exact hown', HN⟩
          case measure => (simp [intOf] <;> go_num)
        · have hcur : (s.data.toList.drop st).take (s.size - st) = [] := by rw [show s.size - st = 0 by omega, List.take_zero]
          rw [hcur, addW_nil] at hW
          have HN : Hid ((s.size + 1 ≤ s.size → ws ++ wordsGo ((s.data.toList.drop (s.size + 1)).take (s.size + 1 - (s.size + 1))) (s.data.toList.drop (s.size + 1)) = D) ∧ (¬ s.size + 1 ≤ s.size → ws = D)) :=
            Lib.hid ⟨fun h => by omega, fun _ => hW⟩
          clear hW hcur
          go_wp2
          go_roundw
          case rel => exact ⟨s.size + 1, s.size + 1, ws, by go_num, by go_num, by omega, by omega, fun _ => by omega, hb, hown, HN⟩
          case measure => (simp [intOf] <;> go_num)
    · have hW := HW.out.2 hle
      subst hW
      clear HW
      have hgt : s.size < i := by omega
      go_wp2
      go_ret
      exact ⟨_, rfl, hown, hb⟩
end Go.Proofs.YtbdimfcdpkldpaaGreatDoor
