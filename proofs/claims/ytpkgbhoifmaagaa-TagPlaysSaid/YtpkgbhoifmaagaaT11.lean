/- The walk of TagPlays. -/
import Derived.Test.YtpkgbhoifmaagaaT10
namespace Go.Proofs.Ytpkgbhoifmaagaa
open Go.RowKit

set_option maxRecDepth 100000 in
set_option maxHeartbeats 8000000 in
theorem plays_walk (n0 : Nat) (ts : List ActT) (p : Option Addr) (nn c : Nat) (hnn : nn = ts.length) (hg : ∀ t ∈ ts, t.good) (w : World) (hr : RV w (fun k => k < w.heap.size) (.slice p nn c) ts.length 4 (ts.flatMap ActT.cells)) :
    Calls Try.prog 4 #[.int .u64 (n0 : Int), .slice p nn c] w fun e w' => e = .returned (.bool true) ∧ Below w.heap.size w w' := by
  subst hnn
  obtain ⟨i0, hi0, hz0, hz1, hz2⟩ := info_parts infoU
  have hlen := hr.len
  unfold maxLen at hlen
  have HL := Lib.hid hlen
  clear hlen
  have HR := Lib.hid hr
  have HG := Lib.hid hg
  have hnew := Lib.hid (New_any n0)
  have hrnew := Lib.hid (RNew_any n0)
  clear hr hg
  generalize capN n0 = cn at *
  go_enter Try.func4, Try.ntmps4
  go_wp2_with fail
  refine (hnew.out _).mono ?_
  rintro e w1 ⟨rfl, hat, hb1⟩
  have HA := Lib.hid hat
  have HB := Lib.hid hb1
  clear hat hb1
  go_wp2_with fail
  refine (hrnew.out _).mono ?_
  rintro e w2 ⟨rfl, hb2⟩
  have hs : w.heap.size ≤ w2.heap.size := by have := HB.out.size; have := hb2.size; omega
  have HI := Lib.hid (show St w (w2.alloc (.cells (bookArr cn (fun _ => 0)) 38)) w.heap.size w2.heap.size cn (fun _ => 0) cn (fun _ => 0) (.slice none 0 0) [] from
    ⟨(HA.out.below hb2 HA.out.1.lt).below (below_alloc1 _ _) (Nat.lt_of_lt_of_le HA.out.1.lt hb2.size), Blk.new _ _ _, World.ownsRow_nil _ _ _ _, below_pre (below_pre HB.out hb2) (below_alloc1 _ _), Nat.le_refl _, hs, fun x h => by cases h⟩)
  clear hb2 hs
  generalize w.heap.size = b at HA HI ⊢
  go_wp2_with (first | (refine wpList_alloc_agg rfl 38 rfl _ zeroR ?_) | (refine wpList_store_row rfl 38 _ _ rfl w2.heap.size _ rfl rfl 38 _ (heap_alloc_new w2 _) (sizeRb _ _) (by rw [bookArr_size, bookArr_size]) (bookArr_one _ _) ?_; rw [World.setRow_alloc_new]))
  generalize w2.heap.size = r at HI ⊢
  go_loopw [7, 8] (fun g t wr => ∃ (i : Nat) (gl : List Nat) (n : Nat) (st : Nat → Nat), i ≤ ts.length ∧ i ≤ 40 ∧ t = .int .i64 i ∧ gl.length ≤ i ∧ Hid (St w wr b r n st n st g gl)) (fun _ t _ => 40 - (intOf t).toNat)
  case atStart => exact ⟨0, [], cn, fun _ => 0, by omega, by omega, rfl, by simp, HI⟩
  case round =>
    obtain ⟨i, gl, n, st, hi, hi4, rfl, hgl, HS⟩ := hrel
    by_cases hlt : i < ts.length
    · by_cases hl4 : i < 40
      · obtain ⟨pg, cg, rfl, _⟩ := RV.of_own HS.out.own
        obtain ⟨t, ht⟩ : ∃ t, ts[i]? = some t := ⟨_, List.getElem?_eq_getElem hlt⟩
        obtain ⟨hk, hwo⟩ := HG.out t (List.mem_of_getElem? ht)
        obtain ⟨bl, off, cc, hv, hbl, _, hcl⟩ := (HR.out.below HS.out.bel (fun k _ h => h)).elem (by decide) (fun _ _ => rfl) i t ht
        obtain ⟨kd, sl, wo, od⟩ := t
        simp only [] at hk hwo
        injection hv with hv1 _ hv2
        subst hv1 hv2
        have c0 : wr.cell? ⟨bl, off + i * 4, none⟩ = some (.int .u8 (kd : Int)) := hcl 0 _ rfl
        have c1 : wr.cell? ⟨bl, off + i * 4 + 1, none⟩ = some (.int .i64 sl) := hcl 1 _ rfl
        have c2 : wr.cell? ⟨bl, off + i * 4 + 2, none⟩ = some (.int .u64 (wo : Int)) := hcl 2 _ rfl
        have c3 : wr.cell? ⟨bl, off + i * 4 + 3, none⟩ = some (.bool od) := hcl 3 _ rfl
        have HWO := Lib.hid hwo
        clear hcl ht hwo hbl
        have hcase : kd % 4 = 0 ∨ kd % 4 = 1 ∨ kd % 4 = 2 ∨ kd % 4 = 3 := by omega
        rcases hcase with hq | hq | hq | hq
        · have hkd : (kd : Int) % 4 = 0 := by omega
          clear hq
          have hS1 := Lib.hid (HS.out.below (below_alloc1 wr (.cells #[.int .u8 (kd : Int), .int .i64 sl, .int .u64 (wo : Int), .bool od] 42)))
          have HB1 := Lib.hid hS1.out.ref
          have hfct := nextN_facts n st sl HS.out.book.2.1
          have hRN := RNext_any n st HS.out.book.2.1 sl
          have hBN := fun w3 (h : BookAt w3 b n st) => Next_any b n st sl w3 h
          obtain ⟨N, hN⟩ : ∃ N, nextN n st sl = N := ⟨_, rfl⟩
          rw [hN] at hfct hRN
          simp only [hN] at hBN
          clear hN
          obtain ⟨n2, st2, x⟩ := N
          simp only [] at hfct hRN hBN
          obtain ⟨hx, hgt⟩ := hfct
          generalize mayN n sl = mb at *
          have HX := Lib.hid hx
          have hgt' : decide (0 < x) = mb := by rw [← hgt]; simp
          clear hgt
          have hRN := Lib.hid hRN
          have hBN := Lib.hid hBN
          clear hx
          go_wp2_with (refine wpList_load_row rfl 38 _ rfl r rfl 38 _ (0, 0) _ HB1.out Try.underlying38 rfl (sizeRb _ _) ?_)
          refine (hRN.out _).mono ?_
          rintro e w1 ⟨rfl, hb1⟩
          have hS2 := Lib.hid (hS1.out.below hb1)
          have HB2 := Lib.hid (hS2.out.below (below_alloc1 w1 (.cells (bookArr n2 st2) 38))).ref
          have hcw : w1.cell? ⟨wr.heap.size, 1, none⟩ = some (.int .i64 sl) := by
            have := hb1.cell (p := ⟨wr.heap.size, 1, none⟩) (by simp)
            rw [cell_of_row _ _ _ _ _ _ (heap_alloc_new wr _)] at this
            exact this
          have hlt : wr.heap.size < w1.heap.size := by have := hb1.size; simp at this; omega
          have hne : wr.heap.size ≠ r := by have := HS.out.ref.lt; omega
          have hcw3 : ((w1.alloc (.cells (bookArr n2 st2) 38)).setRow r (bookArr n2 st2)).cell? ⟨wr.heap.size, 1, none⟩ = some (.int .i64 sl) := by
            rw [cell_setRow _ _ _ _ _ hne, (below_alloc1 w1 _).cell (p := ⟨wr.heap.size, 1, none⟩) hlt, hcw]
          have hS3 := Lib.hid ((hS2.out.below (below_alloc1 w1 (.cells (bookArr n2 st2) 38))).row n2 st2)
          clear hb1 hcw hlt hne
          go_wp2_with (first | (refine wpList_alloc_agg rfl 38 rfl _ zeroR ?_) | (refine wpList_store_row rfl 38 _ _ rfl w1.heap.size _ rfl rfl 38 _ (heap_alloc_new w1 _) (sizeRb _ _) (by rw [bookArr_size, bookArr_size]) (bookArr_one _ _) ?_; rw [World.setRow_alloc_new]) | (refine wpList_load_row rfl 38 _ rfl w1.heap.size rfl 38 _ (0, 0) _ (heap_alloc_new w1 _) Try.underlying38 rfl (sizeRb _ _) ?_) | (refine wpList_store_row rfl 38 _ _ rfl r _ rfl rfl 38 _ HB2.out (sizeRb _ _) (by rw [bookArr_size, bookArr_size]) (bookArr_one _ _) ?_))
          refine (hBN.out _ hS3.out.book).mono ?_
          rintro e w4 ⟨rfl, hat, hf⟩
          have hS4 := Lib.hid (hS3.out.setBook hat hf)
          have hS5 := Lib.hid (hS4.out.below (below_alloc1 w4 (.cells #[.int .u64 (x : Int)] 22)))
          have hO := Lib.hid hS5.out.own
          have hbs : w.heap.size ≤ w4.heap.size + 1 := by have := hS4.out.bel.size; omega
          have HBS := Lib.hid hbs
          clear hat hf hcw3 hbs
          go_wp2_with (first | (at_builtin; refine wpList_append_own _ rfl _ _ 40 rfl w.heap.size 22 i0 (.int .u64 0) 1 8 Try.underlying40 hi0 hz0 hz1 hz2 rfl (by decide) _ _ _ rfl hO.out ⟨w4.heap.size, 0, none⟩ 1 1 [.int .u64 (x : Int)] rfl rfl (cell_one_new _ _ _) (by simp [Value.oneCell']) (by unfold maxLen; omega) (by omega) (by simp; exact HBS.out) ?_; intro v' w5 hown' hgrow _; have hS6 := Lib.hid (hS5.out.app HX.out hown' hgrow); have HSB := Lib.hid hS6.out.ref; clear hown' hgrow) | (refine wpList_load_row rfl 38 _ rfl r rfl 38 _ (0, 0) _ HSB.out Try.underlying38 rfl (sizeRb _ _) ?_))
          refine (same_any b _ _ _ hS6.out.book).mono ?_
          rintro e w9 ⟨rfl, hb9⟩
          have hS9 := Lib.hid (hS6.out.below hb9)
          clear hb9
          go_wp2_with fail
          go_roundw
          case rel => exact ⟨i + 1, gl ++ [x], n2, st2, by omega, by omega, by go_num, by first | omega | (simp; omega), hS9⟩
          case measure => simp [intOf]; omega
        · have hkd : (kd : Int) % 4 = 1 := by omega
          clear hq
          have hS1 := Lib.hid (HS.out.below (below_alloc1 wr (.cells #[.int .u8 (kd : Int), .int .i64 sl, .int .u64 (wo : Int), .bool od] 42)))
          have HB1 := Lib.hid hS1.out.ref
          have hfct := nextN_facts n st sl HS.out.book.2.1
          have hRN := RNext_any n st HS.out.book.2.1 sl
          have hBN := fun w3 (h : BookAt w3 b n st) => Next_any b n st sl w3 h
          obtain ⟨N, hN⟩ : ∃ N, nextN n st sl = N := ⟨_, rfl⟩
          rw [hN] at hfct hRN
          simp only [hN] at hBN
          clear hN
          obtain ⟨n2, st2, x⟩ := N
          simp only [] at hfct hRN hBN
          obtain ⟨hx, hgt⟩ := hfct
          generalize mayN n sl = mb at *
          have HX := Lib.hid hx
          have hgt' : decide (0 < x) = mb := by rw [← hgt]; simp
          clear hgt
          have hRN := Lib.hid hRN
          have hBN := Lib.hid hBN
          clear hx
          go_wp2_with (refine wpList_load_row rfl 38 _ rfl r rfl 38 _ (0, 0) _ HB1.out Try.underlying38 rfl (sizeRb _ _) ?_)
          refine (hRN.out _).mono ?_
          rintro e w1 ⟨rfl, hb1⟩
          have hS2 := Lib.hid (hS1.out.below hb1)
          have HB2 := Lib.hid (hS2.out.below (below_alloc1 w1 (.cells (bookArr n2 st2) 38))).ref
          have hcw : w1.cell? ⟨wr.heap.size, 1, none⟩ = some (.int .i64 sl) := by
            have := hb1.cell (p := ⟨wr.heap.size, 1, none⟩) (by simp)
            rw [cell_of_row _ _ _ _ _ _ (heap_alloc_new wr _)] at this
            exact this
          have hlt : wr.heap.size < w1.heap.size := by have := hb1.size; simp at this; omega
          have hne : wr.heap.size ≠ r := by have := HS.out.ref.lt; omega
          have hcw3 : ((w1.alloc (.cells (bookArr n2 st2) 38)).setRow r (bookArr n2 st2)).cell? ⟨wr.heap.size, 1, none⟩ = some (.int .i64 sl) := by
            rw [cell_setRow _ _ _ _ _ hne, (below_alloc1 w1 _).cell (p := ⟨wr.heap.size, 1, none⟩) hlt, hcw]
          have hS3 := Lib.hid ((hS2.out.below (below_alloc1 w1 (.cells (bookArr n2 st2) 38))).row n2 st2)
          clear hb1 hcw hlt hne
          go_wp2_with (first | (refine wpList_alloc_agg rfl 38 rfl _ zeroR ?_) | (refine wpList_store_row rfl 38 _ _ rfl w1.heap.size _ rfl rfl 38 _ (heap_alloc_new w1 _) (sizeRb _ _) (by rw [bookArr_size, bookArr_size]) (bookArr_one _ _) ?_; rw [World.setRow_alloc_new]) | (refine wpList_load_row rfl 38 _ rfl w1.heap.size rfl 38 _ (0, 0) _ (heap_alloc_new w1 _) Try.underlying38 rfl (sizeRb _ _) ?_) | (refine wpList_store_row rfl 38 _ _ rfl r _ rfl rfl 38 _ HB2.out (sizeRb _ _) (by rw [bookArr_size, bookArr_size]) (bookArr_one _ _) ?_))
          refine (hBN.out _ hS3.out.book).mono ?_
          rintro e w4 ⟨rfl, hat, hf⟩
          have hS4 := Lib.hid (hS3.out.setBook hat hf)
          have hS5 := Lib.hid (hS4.out.below (below_alloc1 w4 (.cells #[.int .u64 (x : Int)] 22)))
          have hO := Lib.hid hS5.out.own
          have hbs : w.heap.size ≤ w4.heap.size + 1 := by have := hS4.out.bel.size; omega
          have HBS := Lib.hid hbs
          clear hat hf hcw3 hbs
          go_wp2_with (first | (at_builtin; refine wpList_append_own _ rfl _ _ 40 rfl w.heap.size 22 i0 (.int .u64 0) 1 8 Try.underlying40 hi0 hz0 hz1 hz2 rfl (by decide) _ _ _ rfl hO.out ⟨w4.heap.size, 0, none⟩ 1 1 [.int .u64 (x : Int)] rfl rfl (cell_one_new _ _ _) (by simp [Value.oneCell']) (by unfold maxLen; omega) (by omega) (by simp; exact HBS.out) ?_; intro v' w5 hown' hgrow _; have hS6 := Lib.hid (hS5.out.app HX.out hown' hgrow); have HSB := Lib.hid hS6.out.ref; clear hown' hgrow) | (refine wpList_load_row rfl 38 _ rfl r rfl 38 _ (0, 0) _ HSB.out Try.underlying38 rfl (sizeRb _ _) ?_))
          refine (same_any b _ _ _ hS6.out.book).mono ?_
          rintro e w9 ⟨rfl, hb9⟩
          have hS9 := Lib.hid (hS6.out.below hb9)
          clear hb9
          go_wp2_with fail
          go_roundw
          case rel => exact ⟨i + 1, gl ++ [x], n2, st2, by omega, by omega, by go_num, by first | omega | (simp; omega), hS9⟩
          case measure => simp [intOf]; omega
        · have hkd : (kd : Int) % 4 = 2 := by omega
          clear hq
          have hS1 := Lib.hid (HS.out.below (below_alloc1 wr (.cells #[.int .u8 (kd : Int), .int .i64 sl, .int .u64 (wo : Int), .bool od] 42)))
          have hD := Lib.hid (Drop_at b n st sl _ hS1.out.book)
          have hne : wr.heap.size ≠ b := by have := HS.out.book.1.lt; omega
          have hcb := fun (w1 : World) (hf : Foot (fun k => k = b) (wr.alloc (.cells #[.int .u8 (kd : Int), .int .i64 sl, .int .u64 (wo : Int), .bool od] 42)) w1) => hf.cell (p := ⟨wr.heap.size, 1, none⟩) (by simp) hne
          simp only [cell_of_row _ _ _ _ _ _ (heap_alloc_new wr _)] at hcb
          have hcb := Lib.hid hcb
          clear hne
          go_wp2_with fail
          refine hD.out.mono ?_
          rintro e w1 ⟨rfl, hat, hf⟩
          have hcw : w1.cell? ⟨wr.heap.size, 1, none⟩ = some (.int .i64 sl) := hcb.out w1 hf
          have hS2 := Lib.hid (hS1.out.setBook hat hf)
          clear hat hf
          cases hin : inB sl with
          | true =>
            obtain ⟨m, rfl, hm⟩ := inB_of sl hin
            rw [dropF_nat st m hm] at hS2
            have hc2 : w1.cell? ⟨r, 1 + m, none⟩ = some (.int .u64 (st m : Int)) := by rw [hS2.out.ref.cell, Nat.add_comm, bookArr_get _ _ m hm]
            have hfz : w1.frozen? ⟨r, 1 + m, none⟩ = false := hS2.out.ref.frozen _
            have hS3 : Hid (St w (w1.setCell ⟨r, 1 + m, none⟩ (.int .u64 0)) b r n (putF st m 0) n (putF st m 0) (.slice pg gl.length cg) gl) := Lib.hid (hS2.out.put m 0)
            clear hin
            have HSB := Lib.hid hS3.out.ref
            go_wp2_with (refine wpList_load_row rfl 38 _ rfl r rfl 38 _ (0, 0) _ HSB.out Try.underlying38 rfl (sizeRb _ _) ?_)
            refine (same_any b _ _ _ hS3.out.book).mono ?_
            rintro e w9 ⟨rfl, hb9⟩
            have hS9 := Lib.hid (hS3.out.below hb9)
            clear hb9
            go_wp2_with fail
            go_roundw
            case rel => exact ⟨i + 1, gl, n, putF st m 0, by omega, by omega, by go_num, by first | omega | (simp; omega), hS9⟩
            case measure => simp [intOf]; omega
          | false =>
            rw [dropF_out st sl hin] at hS2
            unfold inB at hin
            have hin : ¬ (0 ≤ sl ∧ sl < 64) := of_decide_eq_false hin
            by_cases h0 : 0 ≤ sl
            · have h64 : ¬ sl < 64 := fun h => hin ⟨h0, h⟩
              clear hin
              have HSB := Lib.hid hS2.out.ref
              go_wp2_with (refine wpList_load_row rfl 38 _ rfl r rfl 38 _ (0, 0) _ HSB.out Try.underlying38 rfl (sizeRb _ _) ?_)
              refine (same_any b _ _ _ hS2.out.book).mono ?_
              rintro e w9 ⟨rfl, hb9⟩
              have hS9 := Lib.hid (hS2.out.below hb9)
              clear hb9
              go_wp2_with fail
              go_roundw
              case rel => exact ⟨i + 1, gl, n, st, by omega, by omega, by go_num, by first | omega | (simp; omega), hS9⟩
              case measure => simp [intOf]; omega
            · clear hin
              have HSB := Lib.hid hS2.out.ref
              go_wp2_with (refine wpList_load_row rfl 38 _ rfl r rfl 38 _ (0, 0) _ HSB.out Try.underlying38 rfl (sizeRb _ _) ?_)
              refine (same_any b _ _ _ hS2.out.book).mono ?_
              rintro e w9 ⟨rfl, hb9⟩
              have hS9 := Lib.hid (hS2.out.below hb9)
              clear hb9
              go_wp2_with fail
              go_roundw
              case rel => exact ⟨i + 1, gl, n, st, by omega, by omega, by go_num, by first | omega | (simp; omega), hS9⟩
              case measure => simp [intOf]; omega
        · have hkd : (kd : Int) % 4 = 3 := by omega
          clear hq
          have hS1 := Lib.hid (HS.out.below (below_alloc1 wr (.cells #[.int .u8 (kd : Int), .int .i64 sl, .int .u64 (wo : Int), .bool od] 42)))
          have HB1 := Lib.hid hS1.out.ref
          cases od with
          | false =>
            have hL := Lib.hid (live_any b n st wo HWO.out _ hS1.out.book)
            go_wp2_with (refine wpList_load_row rfl 38 _ rfl r rfl 38 _ (0, 0) _ HB1.out Try.underlying38 rfl (sizeRb _ _) ?_)
            refine hL.out.mono ?_
            rintro e w1 ⟨rfl, hb1⟩
            have hS2 := Lib.hid (hS1.out.below hb1)
            clear hb1
            have HSB := Lib.hid hS2.out.ref
            go_wp2_with (refine wpList_load_row rfl 38 _ rfl r rfl 38 _ (0, 0) _ HSB.out Try.underlying38 rfl (sizeRb _ _) ?_)
            refine (same_any b _ _ _ hS2.out.book).mono ?_
            rintro e w9 ⟨rfl, hb9⟩
            have hS9 := Lib.hid (hS2.out.below hb9)
            clear hb9
            go_wp2_with fail
            go_roundw
            case rel => exact ⟨i + 1, gl, n, st, by omega, by omega, by go_num, by first | omega | (simp; omega), hS9⟩
            case measure => simp [intOf]; omega
          | true =>
            by_cases h0 : 0 < gl.length
            · have hkl : wo % gl.length < gl.length := Nat.mod_lt _ h0
              obtain ⟨bl2, off2, cg2, hv2, hcell, hsm⟩ := hS1.out.word _ hkl
              injection hv2 with hv3 _ hv4
              subst hv3 hv4
              have hmod : (wo : Int) % (gl.length : Int) = ((wo % gl.length : Nat) : Int) := by omega
              generalize wo % gl.length = q at *
              generalize gl.getD q 0 = y at *
              have HSM := Lib.hid hsm
              clear hsm
              have hL := Lib.hid (live_any b n st y HSM.out _ hS1.out.book)
              go_wp2_with (refine wpList_load_row rfl 38 _ rfl r rfl 38 _ (0, 0) _ HB1.out Try.underlying38 rfl (sizeRb _ _) ?_)
              refine hL.out.mono ?_
              rintro e w1 ⟨rfl, hb1⟩
              have hS2 := Lib.hid (hS1.out.below hb1)
              clear hb1
              have HSB := Lib.hid hS2.out.ref
              go_wp2_with (refine wpList_load_row rfl 38 _ rfl r rfl 38 _ (0, 0) _ HSB.out Try.underlying38 rfl (sizeRb _ _) ?_)
              refine (same_any b _ _ _ hS2.out.book).mono ?_
              rintro e w9 ⟨rfl, hb9⟩
              have hS9 := Lib.hid (hS2.out.below hb9)
              clear hb9
              go_wp2_with fail
              go_roundw
              case rel => exact ⟨i + 1, gl, n, st, by omega, by omega, by go_num, by first | omega | (simp; omega), hS9⟩
              case measure => simp [intOf]; omega
            · obtain rfl : gl = [] := List.length_eq_zero_iff.1 (by omega)
              clear h0
              have hL := Lib.hid (live_any b n st wo HWO.out _ hS1.out.book)
              go_wp2_with (refine wpList_load_row rfl 38 _ rfl r rfl 38 _ (0, 0) _ HB1.out Try.underlying38 rfl (sizeRb _ _) ?_)
              refine hL.out.mono ?_
              rintro e w1 ⟨rfl, hb1⟩
              have hS2 := Lib.hid (hS1.out.below hb1)
              clear hb1
              have HSB := Lib.hid hS2.out.ref
              go_wp2_with (refine wpList_load_row rfl 38 _ rfl r rfl 38 _ (0, 0) _ HSB.out Try.underlying38 rfl (sizeRb _ _) ?_)
              refine (same_any b _ _ _ hS2.out.book).mono ?_
              rintro e w9 ⟨rfl, hb9⟩
              have hS9 := Lib.hid (hS2.out.below hb9)
              clear hb9
              go_wp2_with fail
              go_roundw
              case rel => exact ⟨i + 1, [], n, st, by omega, by omega, by go_num, by first | omega | (simp; omega), hS9⟩
              case measure => simp [intOf]; omega
      · obtain rfl : i = 40 := by omega
        go_wp2_with (go_at_call 10; refine (awake_any _).mono ?_; rintro e w9 ⟨rfl, hb9⟩)
        go_ret
        exact ⟨rfl, below_pre HS.out.bel hb9⟩
    · obtain rfl : i = ts.length := by omega
      go_wp2_with (go_at_call 10; refine (awake_any _).mono ?_; rintro e w9 ⟨rfl, hb9⟩)
      go_ret
      exact ⟨rfl, below_pre HS.out.bel hb9⟩
end Go.Proofs.Ytpkgbhoifmaagaa
