/- The contract of strconv.FormatUint at base sixteen. -/
import Derived.Test.YtbjmdcjoaapmiaaDoorN5
import Derived.Laws.BitsAllLaws
import Derived.Laws.ShiftsVarLaws
import Derived.CellFam
namespace Go.Proofs.YtbjmdcjoaapmiaaDoor
open Go.RowKit Go.Sort Go.Lib

theorem key16 : IntKind.u64.wrap (bits BinOp.and IntKind.u64 (16 : Int) (IntKind.u64.wrap (-(16 : Int))) * 285870213051353865) / 288230376151711744 = (15 : Int) := by decide +kernel
theorem tz64_16 (w : World) (hcell : w.cell? ⟨3, 15, none⟩ = some (.int .u8 4)) :
    Calls Tryd.prog 110 #[.int .u64 16] w fun e w' => e = .returned (.int .i64 4) ∧ w = w' := by
  go_enter Tryd.func110, Tryd.ntmps110
  go_wp2_with (simp only [key16])
  go_ret
  exact ⟨rfl, rfl⟩
theorem tz16 (w : World) (hc : w.cell? ⟨3, 15, none⟩ = some (.int .u8 4)) :
    Calls Tryd.prog 107 #[.int .u64 16] w fun e w' => e = .returned (.int .i64 4) ∧ w = w' := by
  go_enter Tryd.func107, Tryd.ntmps107
  go_wp2_with (go_at_call 110; refine (tz64_16 _ hc).mono ?_; rintro e w' ⟨rfl, rfl⟩)
  go_ret
  exact ⟨rfl, rfl⟩
theorem pow16 (w : World) :
    Calls Tryd.prog 106 #[.int .i64 16] w fun e w' => e = .returned (.bool true) ∧ w = w' := by
  go_enter Tryd.func106, Tryd.ntmps106
  go_wp2
  go_ret
  exact ⟨rfl, rfl⟩

/-- The block that formatBits writes its digits into: from place i on it holds L. -/
def Row65 (w : World) (b i : Nat) (L : List UInt8) : Prop :=
  (∀ j, j < 65 → (∃ v, w.cell? ⟨b, j, none⟩ = some v) ∧ w.frozen? ⟨b, j, none⟩ = false) ∧ ∀ j, (h : j < L.length) → w.cell? ⟨b, i + j, none⟩ = some (.int .u8 (L[j].toNat : Nat))
theorem Row65.cons {w : World} {b i : Nat} {L : List UInt8} (h : Row65 w b (i + 1) L) (hi : i < 65) (c : UInt8) : Row65 (w.setCell ⟨b, i, none⟩ (.int .u8 (c.toNat : Nat))) b i (c :: L) := by
  obtain ⟨h1, h2⟩ := h
  have hc0 := h1 i hi
  obtain ⟨⟨v0, hc0⟩, hf0⟩ := hc0
  refine ⟨fun j hj => ?_, fun j hj => ?_⟩
  · obtain ⟨⟨v, hv⟩, hf⟩ := h1 j hj
    refine ⟨?_, ?_⟩
    · by_cases e : j = i
      · subst e
        exact ⟨_, World.cell?_setCell_same _ _ _ hc0⟩
      · exact ⟨v, by rw [World.cell?_setCell_other _ _ _ _ (by simp <;> exact e)]; exact hv⟩
    · rw [World.frozen?_setCell]; exact hf
  · cases j with
    | zero => exact World.cell?_setCell_same _ _ _ hc0
    | succ j =>
      have hj' : j < L.length := by simpa using hj
      rw [World.cell?_setCell_other _ _ _ _ (by simp), List.getElem_cons_succ, ← h2 j hj', show i + (j + 1) = i + 1 + j by omega]

def zeros65 : Array Value := Array.replicate 65 (.int .u8 0)
theorem Row65.new (w : World) (T : TypeId) : Row65 (w.alloc (.cells zeros65 T)) w.heap.size 65 [] := by
  refine ⟨fun j hj => ⟨⟨.int .u8 0, ?_⟩, World.frozen?_alloc_new _ _ _ _⟩, fun j hj => by simp at hj⟩
  rw [World.cell?_alloc_new]
  unfold zeros65
  rw [Array.getElem?_replicate, if_pos hj]

theorem und16 (x : Nat) (h : x < 18446744073709551616) : bits .and .u64 (x : Int) 15 = ((x % 16 : Nat) : Int) := by
  have := u64_and_nat x 15 h (by decide)
  rw [show ((15 : Nat) : Int) = 15 from rfl] at this
  rw [this, show (15 : Nat) = 2 ^ 4 - 1 by decide, Nat.and_two_pow_sub_one_eq_mod]

theorem dg36_fin : ∀ x : Fin 16, Lib.digits36.data.toList[x.val]? = some (dgB x.val) := by decide +kernel
theorem idx36 (k : IntKind) (x : Nat) (h : x < 16) (W : World) :
    (Instr.index 9 (.string Lib.digits36) (.int k x)).run Tryd.prog W = .ok (.int .u8 ((dgB x).toNat : Nat)) W := by
  have hs : x < Lib.digits36.size := by rw [Lib.digits36_size]; omega
  rw [run_index_string W 9 Lib.digits36 k x und_str, dif_pos ⟨by omega, by omega⟩]
  have := dg36_fin ⟨x, h⟩
  rw [byte_at _ _ hs] at this
  congr 4
  exact Option.some.inj this

theorem al65 : Tryd.prog.arrayLen 138 = 65 := by kernel_rfl
theorem el65 : (Tryd.prog.underlying 138) = some (.array 65 5) := by kernel_rfl

set_option maxHeartbeats 1600000 in
set_option maxRecDepth 100000 in
theorem fBits_any (u0 : Nat) (hu64 : u0 < 18446744073709551616) (w : World) (htab : Tabs w) :
    Calls Tryd.prog 99 #[.slice none 0 0, .int .u64 u0, .int .i64 16, .bool false, .bool false] w fun e w' => e = .returned (.tuple #[.slice none 0 0, .string ⟨(hexM u0).toArray⟩]) ∧ Below w.heap.size w w' := by
  have hl16 := hexM_len 15 u0 (by omega)
  have hc15 := htab.2
  have hc15' : (w.alloc (.cells zeros65 138)).cell? ⟨3, 15, none⟩ = some (.int .u8 4) := by
    rw [World.cell?_alloc_old _ _ _ (by have := block_lt_of_cell hc15; simp only at this ⊢; omega)]
    exact hc15
  have Hc := Lib.hid hc15'
  have Hu := Lib.hid hu64
  have hR := Row65.new w 138
  have HR := Lib.hid hR
  clear hc15 hc15' hu64 htab hR
  go_enter Tryd.func99, Tryd.ntmps99
  go_name_bytes MG hMG
  clear hMG
  go_name_bytes DG hDG
  have eDG : DG = Lib.digits36 := by rw [← hDG]; decide +kernel
  subst eDG
  clear hDG
  go_wp2_with (first
    | (go_at_call 106; refine (pow16 _).mono ?_; rintro e w' ⟨rfl, rfl⟩)
    | (go_at_call 107; refine (tz16 _ Hc.out).mono ?_; rintro e w' ⟨rfl, rfl⟩))
  generalize hW1 : w.alloc (.cells zeros65 138) = W1 at HR
  have hb1 : Below w.heap.size w W1 := by rw [← hW1]; exact (Below.refl _ _).alloc (Nat.le_refl _) _
  clear hW1 Hc
  go_loopw [1, 13] (fun vu vi wr => ∃ (u i : Nat) (L : List UInt8), vu = .int .u64 u ∧ vi = .int .i64 i ∧ i + L.length = 65 ∧ Hid (hexM u0 = hexM u ++ L) ∧ Hid (u < 18446744073709551616) ∧ Row65 wr w.heap.size i L ∧ Below w.heap.size w wr) (fun _ vi _ => (RowKit.intOf vi).toNat)
  case atStart => exact ⟨u0, 65, [], rfl, rfl, rfl, Lib.hid (by simp), Hu, HR.out, hb1⟩
  case round =>
    obtain ⟨u, i, L, rfl, rfl, hiL, Hx, Hlt, hrow, hbr⟩ := hrel
    have hlen := congrArg List.length Hx.out
    rw [List.length_append] at hlen
    have hpos : 1 ≤ (hexM u).length := by
      by_cases h : u < 16
      · rw [hexM_small h]; simp
      · rw [hexM_big h]; simp
    have hi1 : 50 ≤ i := by omega
    have hi2 : i ≤ 65 := by omega
    have hL : L.length ≤ 15 := by omega
    clear hlen hpos
    obtain ⟨i, rfl⟩ : ∃ k, i = k + 1 := ⟨i - 1, by omega⟩
    obtain ⟨⟨v0, hcell⟩, hfroz⟩ := hrow.1 i (by omega)
    by_cases h16 : 16 ≤ u
    · have hand := und16 u Hlt.out
      have hix := idx36 .u64 (u % 16) (by omega)
      have hrow2 := hrow.cons (by omega) (dgB (u % 16))
      have hx2 : hexM u0 = hexM (u / 16) ++ dgB (u % 16) :: L := by
        rw [Hx.out, hexM_big (by omega)]; simp
      generalize u % 16 = r at hand hix hrow2 hx2
      have Hx2 := Lib.hid hx2
      have HR2 := Lib.hid hrow2
      clear hx2 hrow2 hrow
      go_wp2
      go_roundw
      case rel => exact ⟨u / 16, i, dgB r :: L, by go_num, by go_num, by simp; omega, Hx2, Lib.hid (Nat.lt_of_le_of_lt (Nat.div_le_self _ _) Hlt.out), HR2.out, hbr.setCell (Nat.le_refl _) _⟩
      case measure => (simp [RowKit.intOf] <;> go_num)
    · have hix := idx36 .u64 u (by omega)
      have hrow2 := hrow.cons (by omega) (dgB u)
      have hx2 : hexM u0 = dgB u :: L := by
        rw [Hx.out, hexM_small (by omega)]; simp
      generalize dgB u = c at hix hrow2 hx2
      have hlc : (c :: L).length = 65 - i := by rw [List.length_cons]; omega
      have hbr2 := hbr.setCell (p := ⟨w.heap.size, i, none⟩) (Nat.le_refl _) (.int .u8 (c.toNat : Nat))
      have hcv := run_convert_bytes_back (P := Tryd.prog) (wr.setCell ⟨w.heap.size, i, none⟩ (.int .u8 (c.toNat : Nat))) 38 9 5 ⟨w.heap.size, i, none⟩ (65 - i) (c :: L) Tryd.underlying38 Tryd.underlying5 Tryd.underlying9 (fun j hj => by
        rw [Lib.add_plain]
        exact hrow2.2 j hj)
      have hsl : ∀ W, (Instr.sliceAt 138 (.pointer (some ⟨w.heap.size, 0, none⟩)) (some (.int .i64 (i : Int))) none none).run Tryd.prog W = .ok (.slice (some ⟨w.heap.size, i, none⟩) (65 - i) (65 - i)) W := fun W => by
        rw [run_sliceAt_array_l W 138 ⟨w.heap.size, 0, none⟩ (by simp [Program.arrayLen, Program.elem]) .i64 (i : Int) (by omega) (by rw [al65]; omega)]
        rw [al65]
        go_simp
        try omega
      rw [hlc] at hcv
      have Hx2 := Lib.hid hx2
      clear hx2 hrow2 hrow hlc
      generalize hs2 : wr.setCell ⟨w.heap.size, i, none⟩ (.int .u8 (c.toNat : Nat)) = w2 at hcv hbr2
      go_wp2
      go_ret2
      refine ⟨?_, hbr2⟩
      rw [Hx2.out]
      rfl
end Go.Proofs.YtbjmdcjoaapmiaaDoor
