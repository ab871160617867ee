/- The contract of the statements' own awake, and bytes as a text. -/
import Derived.Test.YtpdlfelmdnkjdaaW8
import Derived.Laws.BytesArg
namespace Go.Proofs.Ytpdlfelmdnkjdaa
open Go.RowKit

theorem map_self (l : List UInt8) : List.map ((fun n : Int => UInt8.ofNat n.toNat) ∘ fun c : UInt8 => (c.toNat : Int)) l = l := by
  induction l with
  | nil => rfl
  | cons c l ih => rw [List.map_cons, ih]; simp
/-- Bytes that read, turned into a text. -/
theorem text_rv {P : Program} {w : World} {G : Nat → Prop} {v : Value} {l : List UInt8} (src e dst : TypeId) (hs : P.underlying src = some (.slice e)) (he : P.underlying e = some (.int .u8)) (hd : P.underlying dst = some .string)
    (h : RV w G v l.length 1 (l.map bV)) : (convert src dst v).run P w = .ok (.string ⟨l.toArray⟩) w := by
  obtain ⟨p, c, rfl, hn, hm, hp, hl, hc⟩ := h
  cases p with
  | none =>
    have hcz := hp rfl
    have : l = [] := List.length_eq_zero_iff.1 (by omega)
    subst this
    exact run_convert_bytes_nil w src e hs he _ _ dst hd
  | some ad =>
    have hload : (loadCells ad l.length).run P w = .ok (((l.map fun c => (c.toNat : Int)).map (Value.int .u8)).toArray) w := by
      have hx := run_loadCells_list (P := P) w ad (l.map bV) (fun j u hu => by
        rcases hc with h0 | ⟨b, off, hb, _, _, hc⟩
        · have : l = [] := List.length_eq_zero_iff.1 h0
          subst this
          simp at hu
        · cases hb
          have hadd : (⟨b, off, none⟩ : Addr).add j = ⟨b, off + j, none⟩ := by unfold Addr.add; split <;> simp_all
          rw [hadd]; exact hc j u hu)
      rw [List.length_map] at hx
      rw [List.map_map]
      exact hx
    rw [run_convert_bytes_string w src dst e _ _ c hs he hd, run_bytesToString w _ _ c _ hload, foldl_push_bytes]
    congr 3
    simp only [ByteArray.empty, ByteArray.emptyWithCapacity, List.map_map]
    rw [map_self]
    simp
    rfl

theorem numB_0 : numB 0 = [0] := by decide
theorem numB_300 : numB 300 = [2, 1, 44] := by decide
theorem add_0 : wAdd 4 (some []) (numB 0) = some [0] := by rw [numB_0]; rfl
theorem add_300 : wAdd 4 (some [0]) (numB 300) = some [0, 2, 1, 44] := by rw [numB_300]; rfl
theorem rd_bad : rdNum (.ok [2, 0, 44]) = (.err 3, 0) := by rfl

set_option maxHeartbeats 800000 in
theorem awake_any (w : World) :
    Calls Try.prog 12 #[] w fun e w' => e = .returned (.bool true) ∧ Below w.heap.size w w' := by
  have hnew := New_any 4 w
  go_enter Try.func12, Try.ntmps12
  go_wp2_with fail
  refine hnew.mono ?_
  clear hnew
  rintro e w0 ⟨rfl, hw0, hb0⟩
  have hn := WNum_any w0 0 (by decide) (fun l h => by cases h; decide) (by decide) hw0
  rw [show (4 : Int).toNat = 4 from rfl, add_0] at hn
  have HB0 := Lib.hid hb0
  clear hw0 hb0
  go_wp2_with fail
  refine hn.mono ?_
  clear hn
  rintro e w1 ⟨rfl, v1, hw1, hf1, hv1⟩
  have hn := WNum_any w1 300 (by decide) (fun l h => by cases h; decide) (by decide) hw1
  rw [add_300] at hn
  have hb1 : Below w.heap.size w w1 := HB0.out.trans (hf1.below HB0.out.size (fun k hk => by
    rcases hk with rfl | hk
    · exact Nat.le_refl _
    · cases hk))
  have HB1 := Lib.hid hb1
  have HV1 := Lib.hid hw1.2.1
  clear hb1 hw1 hf1 hv1
  go_wp2_with fail
  refine hn.mono ?_
  clear hn
  rintro e w2 ⟨rfl, v2, hw2, hf2, hv2⟩
  have hd := WDone_some w2 _ (by decide) hw2
  have hb2 : Below w.heap.size w w2 := HB1.out.trans (hf2.below HB1.out.size (fun k hk => by
    rcases hk with rfl | hk
    · exact Nat.le_refl _
    · exact HV1.out k hk))
  have HB2 := Lib.hid hb2
  clear hb2 hw2 hf2 hv2
  go_wp2_with fail
  refine hd.mono ?_
  clear hd
  rintro e w3 ⟨x, rfl, hown, hb⟩
  have HB3 := Lib.hid (below_pre HB2.out hb)
  have hrx := RV.of_own hown
  have hlx := hown.lt
  have hrow := World.ownsRow_lit (e := 5) (size := 1) w3 #[.int .u8 2, .int .u8 0, .int .u8 44] 3 (Nat.le_refl _) (by decide) rfl
  have hrd := Read_any (w3.alloc (.cells #[.int .u8 2, .int .u8 0, .int .u8 44] 5)) _ [2, 0, 44] (by decide) _ (RV.of_own hrow)
  have hrx2 := (hrx.alloc (.cells #[.int .u8 2, .int .u8 0, .int .u8 44] 5)).mono (G' := fun k => k < w3.heap.size) (fun k _ hk => (hlx k hk).2)
  have HX := Lib.hid hrx2
  clear hb hown hrx hlx hrow hrx2
  go_wp2_with fail
  refine hrd.mono ?_
  clear hrd
  rintro e w4 ⟨⟨r, rfl, hr, hrd⟩, hb⟩
  have HB4 := Lib.hid (below_pre HB3.out (below_pre (below_alloc w3 _) hb))
  have HX4 := Lib.hid (HX.out.below hb (fun k hk _ => hk))
  have hnum := RdNum_any r _ w4 hrd
  rw [rd_bad] at hnum
  have hsz := hb.size
  have hrw : ¬ r < w3.heap.size := by simp at hr hsz; omega
  have HR := Lib.hid (show w.heap.size ≤ r by have := HB3.out.size; omega)
  clear hb hrd hr hsz
  go_wp2_with fail
  refine hnum.mono ?_
  clear hnum
  rintro e w5 ⟨rfl, ho⟩
  have HB5 := Lib.hid (HB4.out.trans (ho.2.below HB4.out.size (fun k hk => by subst hk; exact HR.out)))
  have hrx5 := HX4.out.foot ho.2 (fun k hk e => hrw (e ▸ hk))
  have hcv := text_rv 25 5 9 Try.underlying25 Try.underlying5 Try.underlying9 hrx5
  have her := Err_any r _ w5 ho.1
  clear ho hrx5 hrw
  obtain ⟨p, c, rfl, _⟩ := HX.out
  have hcv2 : (convert 25 9 (.slice p 4 c)).run Try.prog w5 = .ok (.string ⟨#[0, 2, 1, 44]⟩) w5 := hcv
  clear hcv
  go_wp2_with (go_at_call 15; refine her.mono ?_; clear her; rintro e w6 ⟨rfl, rfl⟩)
  go_ret
  exact ⟨rfl, HB5.out⟩
end Go.Proofs.Ytpdlfelmdnkjdaa
