/- The contract of the reference's Get, its loop. The contract of the reference's Get. -/
import Derived.Test.YtlgjbcmkhcgigaaDoorD32
import Derived.Test.YtlgjbcmkhcgigaaDoorLB
namespace Go.Proofs.YtlgjbcmkhcgigaaDoor
open Go.RowKit
open Wire (RS rdByte rdNum truth RsV GetOut)

theorem Foot.row' {S : Nat → Prop} {w w1 : World} (h : Foot S w w1) {g : Nat} (hg : S g) (cs : Array Value) : Foot S w (w1.setRow g cs) := h.then_ (foot_setRow w1 g cs) (fun x (hx : x = g) => .inl (by rw [hx]; exact hg))
theorem rs_foot {w w' : World} {G S : Nat → Prop} {v : Value} {st : RS} (h : RsV w G v st) (hf : Foot S w w') (hd : ∀ k, G k → ¬ S k) : RsV w' G v st := by
  cases st with
  | ok l => obtain ⟨⟨sl, hv, hr⟩, hl⟩ := h; exact ⟨⟨sl, hv, hr.foot hf hd⟩, hl⟩
  | err e => exact h
set_option maxRecDepth 100000 in
set_option maxHeartbeats 8000000 in
theorem RGet_rest (p : Option Addr) (n c : Nat) (y0 : Int) (st : RS) (G : Nat → Prop) (w : World) (hG : ∀ k, G k → k < w.heap.size) (h : RsV w G (.agg #[.slice p n c, .int .i64 y0]) st)
    (hc : (rdByte st).1.code = 0) (ho : isOp (rdByte st).2 = true) (sF : RS) (dF D : Deed) (y : Nat) (hgo : getGo (opr (rdByte st).2) (rdByte st).1 (opD (rdByte st).2) = (sF, dF))
    (hR0 : sF.code = 0 → goodD dF = true → (D, y) = (dF, 0)) (hR1 : sF.code = 0 → goodD dF = false → (D, y) = (zeroD, 5)) (hR2 : ¬ sF.code = 0 → (D, y) = (zeroD, sF.code)) :
    Calls Tryd.prog 96 #[.agg #[.slice p n c, .int .i64 y0]] w fun e w' => (∃ p n c, e = .returned (.tuple #[.agg #[.slice p n c, .int .i64 (y : Int)], .agg D.cells]) ∧ RsV w' G (.agg #[.slice p n c, .int .i64 (y : Int)]) (outS y sF)) ∧ Below w.heap.size w w' := by
  have g1 : Blk (((w.alloc (.cells #[.slice p n c, .int .i64 y0] 85)).alloc (.cells #[.slice none 0 0, .int .i64 0] 85)).alloc (.cells zeroD.cells 45)) w.heap.size 85 #[.slice p n c, .int .i64 y0] := ((Blk.new w _ _).alloc _).alloc _
  have g2 : Blk (((w.alloc (.cells #[.slice p n c, .int .i64 y0] 85)).alloc (.cells #[.slice none 0 0, .int .i64 0] 85)).alloc (.cells zeroD.cells 45)) (w.heap.size + 1) 85 #[.slice none 0 0, .int .i64 0] := (two_new w _ _ _).alloc _
  have g3 : Blk (((w.alloc (.cells #[.slice p n c, .int .i64 y0] 85)).alloc (.cells #[.slice none 0 0, .int .i64 0] 85)).alloc (.cells zeroD.cells 45)) (w.heap.size + 2) 45 zeroD.cells := by
    have := Blk.new ((w.alloc (.cells #[.slice p n c, .int .i64 y0] 85)).alloc (.cells #[.slice none 0 0, .int .i64 0] 85)) 45 zeroD.cells
    rwa [show ((w.alloc (.cells #[.slice p n c, .int .i64 y0] 85)).alloc (.cells #[.slice none 0 0, .int .i64 0] 85)).heap.size = w.heap.size + 2 by simp] at this
  have hbb : Below w.heap.size w (((w.alloc (.cells #[.slice p n c, .int .i64 y0] 85)).alloc (.cells #[.slice none 0 0, .int .i64 0] 85)).alloc (.cells zeroD.cells 45)) := (below_alloc2 w _ _).alloc (by simp; omega) _
  have hv3 := h.later hbb
  have hget := Wire.GetByte_any _ st G _ hv3
  have hparts := Parts_any ((rdByte st).2 : Int) ho
  have hsz := partsL_size ((rdByte st).2 : Int)
  have h5 := opr_len ((rdByte st).2 : Int) ho
  have h7 := Lib.hid (opr_lt ((rdByte st).2 : Int) ho)
  have hix := Lib.hid (parts_ix ((rdByte st).2 : Int))
  unfold sV at hparts
  have hs := Wire.rdByte_snd st
  have hk1 : ¬ (rdByte st).2 < 1 ∧ ¬ 11 < (rdByte st).2 := by
    have := isOp_cases ho
    omega
  generalize rdByte st = q at *
  obtain ⟨q1, k0⟩ := q
  simp only at hc hget hs hk1 hparts hsz h5 h7 hix hgo
  obtain ⟨hk1, hk2⟩ := hk1
  have hk0 : ¬ k0 = 0 := by omega
  have ty : ((q1.code : Int) != 0) = false := by simp [hc]
  generalize (ByteArray.mk (partsL (k0 : Int)).toArray) = s at *
  generalize opr (k0 : Int) = os at *
  have HGO : Hid (getGo (os.drop 0) q1 (opD (k0 : Int)) = (sF, dF)) := Lib.hid hgo
  have HR0 := Lib.hid hR0
  have HR1 := Lib.hid hR1
  have HR2 := Lib.hid hR2
  clear ho h hc hgo hR0 hR1 hR2
  go_enter Tryd.func96, Tryd.ntmps96
  go_wp2_with (first
    | (refine wpList_box_agg rfl 85 _ rfl #[.slice p n c, .int .i64 y0] rfl ?_)
    | (refine wpList_alloc_agg rfl 85 rfl #[.slice none 0 0, .int .i64 0] zeroRd ?_)
    | (refine wpList_alloc_agg rfl 45 rfl zeroD.cells zeroR ?_)
    | (refine wpList_load_row rfl 85 _ rfl w.heap.size rfl 85 _ (0, 0) _ g1 Tryd.underlying85 rfl (sizeRd _ _) ?_)
    | (go_at_call 112; (with_reducible refine hget.mono ?_); clear hget; rintro e w1 ⟨⟨v1, rfl, hv1⟩, hb1⟩; obtain ⟨p1, n1, c1, rfl⟩ := hv1.shape; have x1 := g1.below hb1 g1.lt; have x2 := g2.below hb1 g2.lt; have x3 := g3.below hb1 g3.lt; have hbw1 := below_pre hbb hb1)
    | (refine wpList_store_row rfl 85 _ _ rfl w.heap.size #[.slice p1 n1 c1, .int .i64 (q1.code : Int)] rfl rfl 85 _ x1 (sizeRd _ _) rfl (oneRd _ trivial) ?_; have z1 := x1.row #[.slice p1 n1 c1, .int .i64 (q1.code : Int)]; have z2 := x2.foot (foot_setRow w1 w.heap.size #[.slice p1 n1 c1, .int .i64 (q1.code : Int)]) (by omega); have z3 := x3.foot (foot_setRow w1 w.heap.size #[.slice p1 n1 c1, .int .i64 (q1.code : Int)]) (by omega); have zc : (w1.setRow w.heap.size #[.slice p1 n1 c1, .int .i64 (q1.code : Int)]).cell? ⟨w.heap.size, 1, none⟩ = some (.int .i64 (q1.code : Int)) := z1.cell 1; have hbw2 := hbw1.trans (foot_row (w := w1) (B := w.heap.size) #[.slice p1 n1 c1, .int .i64 (q1.code : Int)] (Nat.le_refl _)))
    | (refine wpList_store_row rfl 45 _ _ rfl (w1.setRow w.heap.size #[.slice p1 n1 c1, .int .i64 (q1.code : Int)]).heap.size (opD (k0 : Int)).cells rfl rfl 45 _ (heap_alloc_new _ _) (sizeD _) rfl (oneD _) ?_; rw [World.setRow_alloc_new]; have hcd : ((w1.setRow w.heap.size #[.slice p1 n1 c1, .int .i64 (q1.code : Int)]).alloc (.cells (opD (k0 : Int)).cells 45)).cell? ⟨w1.heap.size, 0, none⟩ = some (.int .i64 (k0 : Int)) := (by have hh := (Blk.new (w1.setRow w.heap.size #[.slice p1 n1 c1, .int .i64 (q1.code : Int)]) 45 (opD (k0 : Int)).cells).cell 0; rw [show (w1.setRow w.heap.size #[.slice p1 n1 c1, .int .i64 (q1.code : Int)]).heap.size = w1.heap.size by simp [World.setRow]] at hh; exact hh))
    | (go_at_call 73; (with_reducible refine (hparts _).mono ?_); clear hparts hcd; rintro e w4 ⟨rfl, hb4⟩))
  have zs : (w1.setRow w.heap.size #[.slice p1 n1 c1, .int .i64 (q1.code : Int)]).heap.size = w1.heap.size := by simp [World.setRow]
  have hbd4 := (Blk.new (w1.setRow w.heap.size #[.slice p1 n1 c1, .int .i64 (q1.code : Int)]) 45 (opD (k0 : Int)).cells).below hb4 (by simp)
  rw [zs] at hbd4
  have b1 := (z1.alloc (.cells (opD (k0 : Int)).cells 45)).below hb4 (z1.alloc _).lt
  have b2 := (z2.alloc (.cells (opD (k0 : Int)).cells 45)).below hb4 (z2.alloc _).lt
  have b3 := (z3.alloc (.cells (opD (k0 : Int)).cells 45)).below hb4 (z3.alloc _).lt
  have hbw4 : Below w.heap.size w w4 := below_pre (hbw2.alloc hbw2.size _) hb4
  have hv4 := ((rs_foot (hv1.later hb1) (foot_setRow w1 w.heap.size #[.slice p1 n1 c1, .int .i64 (q1.code : Int)]) (fun k hk (e : k = w.heap.size) => by have := hG k hk; omega)).later (below_alloc1 _ (.cells (opD (k0 : Int)).cells 45))).later hb4
  have hgd : w.heap.size + 3 ≤ w1.heap.size := by have := hb1.size; simp at this; omega
  generalize w1.heap.size = gd at *
  clear g1 g2 g3 hbb hb1 x1 x2 x3 z1 z2 z3 zc hbw1 hbw2 hb4 zs hv1 hv3
  go_loopw [7] (fun t wr => ∃ (k : Nat) (dk : Deed) (sk : RS) (pk : Option Addr) (nk ck : Nat), k ≤ os.length ∧ t = .int .i64 k ∧ Hid (getGo (os.drop k) sk dk = (sF, dF)) ∧ Hid (RsV wr G (.agg #[.slice pk nk ck, .int .i64 (sk.code : Int)]) sk) ∧ Blk wr w.heap.size 85 #[.slice pk nk ck, .int .i64 (sk.code : Int)] ∧ Blk wr gd 45 dk.cells ∧ Foot (fun b => b = w.heap.size ∨ b = gd) w4 wr) (fun t _ => os.length - (intOf t).toNat)
  case atStart => exact ⟨0, opD (k0 : Int), q1, p1, n1, c1, by omega, rfl, HGO, Lib.hid hv4, b1, hbd4, Foot.refl _ _⟩
  case round =>
    clear b1 hbd4 hv4
    obtain ⟨k, dk, sk, pk, nk, ck, hk, rfl, hgo, hv, hB1, hBD, hfoot⟩ := hrel
    have hbw5 : Below w.heap.size w wr := hbw4.trans (hfoot.below (B := w.heap.size) (by have := hbw4.size; omega) (fun b hb => by rcases hb with hb | hb <;> omega))
    replace b2 := b2.foot hfoot (by omega)
    replace b3 := b3.foot hfoot (by omega)
    have hG1 : ∀ k, G k → k < wr.heap.size := fun k hk => by have := hG k hk; have := hbw5.size; omega
    by_cases hlt : k < os.length
    · obtain ⟨o, ho1⟩ : ∃ o, os[k]? = some o := ⟨_, List.getElem?_eq_getElem hlt⟩
      have ho7 := h7.out o (List.mem_of_getElem? ho1)
      have hgo2 := hgo.out
      rw [drop_cons os k o ho1, getGo] at hgo2
      have hi := hix.out k o ho1
      clear hgo ho1
      rcases o_cases ho7 with rfl | rfl | rfl | rfl | rfl | rfl | rfl
      · replace hi : ∀ W, (Instr.index 9 (.string s) (.int .i64 (k : Int))).run Tryd.prog W = .ok (.int .u8 65) W := hi
        have hget := Wire.GetByte_any _ sk G wr hv.out
        have hsx := Wire.rdByte_snd sk
        rw [show getO 0 sk = rdByte sk from rfl] at hgo2
        generalize rdByte sk = z at *
        have HGO := Lib.hid hgo2
        clear hgo2
        go_wp2_with (first
          | (refine wpList_load_row rfl 85 _ rfl w.heap.size rfl 85 _ (0, 0) _ hB1 Tryd.underlying85 rfl (sizeRd _ _) ?_)
          | (go_at_call 112; (with_reducible refine hget.mono ?_); clear hget; rintro e w5 ⟨⟨v5, rfl, hv5⟩, hb5⟩; obtain ⟨p5, n5, c5, rfl⟩ := hv5.shape; have x1 := hB1.below hb5 hB1.lt; have xd := hBD.below hb5 hBD.lt)
          | (refine wpList_store_row rfl 85 _ _ rfl w.heap.size #[.slice p5 n5 c5, .int .i64 (z.1.code : Int)] rfl rfl 85 _ x1 (sizeRd _ _) rfl (oneRd _ trivial) ?_; have y1 := x1.row #[.slice p5 n5 c5, .int .i64 (z.1.code : Int)]; have yd := xd.foot (foot_setRow w5 w.heap.size #[.slice p5 n5 c5, .int .i64 (z.1.code : Int)]) (by omega); have hcd : (w5.setRow w.heap.size #[.slice p5 n5 c5, .int .i64 (z.1.code : Int)]).cell? ⟨gd, 1, none⟩ = some (.int .i64 dk.a) := yd.cell 1; have hfd := yd.frozen 1))
        go_roundw
        case rel => exact ⟨k + 1, _, z.1, p5, n5, c5, by omega, by go_num, HGO, Lib.hid (rs_foot (hv5.later hb5) (((Foot.refl (fun b => b = w.heap.size ∨ b = gd) w5).row' (.inl rfl) _).setCell (p := ⟨gd, 1, none⟩) (.inl (.inr rfl)) _) (fun kk hk e => by have := hG kk hk; omega)), y1.far (by show w.heap.size ≠ gd; omega) _, (blk_put yd 1 _ rfl).1, ((hfoot.trans (Foot.of_below _ hb5)).row' (.inl rfl) _).setCell (p := ⟨gd, 1, none⟩) (.inl (.inr rfl)) _⟩
        case measure => simp [intOf]; omega
      · replace hi : ∀ W, (Instr.index 9 (.string s) (.int .i64 (k : Int))).run Tryd.prog W = .ok (.int .u8 66) W := hi
        have hget := Wire.GetByte_any _ sk G wr hv.out
        have hsx := Wire.rdByte_snd sk
        rw [show getO 1 sk = rdByte sk from rfl] at hgo2
        generalize rdByte sk = z at *
        have HGO := Lib.hid hgo2
        clear hgo2
        go_wp2_with (first
          | (refine wpList_load_row rfl 85 _ rfl w.heap.size rfl 85 _ (0, 0) _ hB1 Tryd.underlying85 rfl (sizeRd _ _) ?_)
          | (go_at_call 112; (with_reducible refine hget.mono ?_); clear hget; rintro e w5 ⟨⟨v5, rfl, hv5⟩, hb5⟩; obtain ⟨p5, n5, c5, rfl⟩ := hv5.shape; have x1 := hB1.below hb5 hB1.lt; have xd := hBD.below hb5 hBD.lt)
          | (refine wpList_store_row rfl 85 _ _ rfl w.heap.size #[.slice p5 n5 c5, .int .i64 (z.1.code : Int)] rfl rfl 85 _ x1 (sizeRd _ _) rfl (oneRd _ trivial) ?_; have y1 := x1.row #[.slice p5 n5 c5, .int .i64 (z.1.code : Int)]; have yd := xd.foot (foot_setRow w5 w.heap.size #[.slice p5 n5 c5, .int .i64 (z.1.code : Int)]) (by omega); have hcd : (w5.setRow w.heap.size #[.slice p5 n5 c5, .int .i64 (z.1.code : Int)]).cell? ⟨gd, 2, none⟩ = some (.int .i64 dk.b) := yd.cell 2; have hfd := yd.frozen 2))
        go_roundw
        case rel => exact ⟨k + 1, _, z.1, p5, n5, c5, by omega, by go_num, HGO, Lib.hid (rs_foot (hv5.later hb5) (((Foot.refl (fun b => b = w.heap.size ∨ b = gd) w5).row' (.inl rfl) _).setCell (p := ⟨gd, 2, none⟩) (.inl (.inr rfl)) _) (fun kk hk e => by have := hG kk hk; omega)), y1.far (by show w.heap.size ≠ gd; omega) _, (blk_put yd 2 _ rfl).1, ((hfoot.trans (Foot.of_below _ hb5)).row' (.inl rfl) _).setCell (p := ⟨gd, 2, none⟩) (.inl (.inr rfl)) _⟩
        case measure => simp [intOf]; omega
      · replace hi : ∀ W, (Instr.index 9 (.string s) (.int .i64 (k : Int))).run Tryd.prog W = .ok (.int .u8 82) W := hi
        have hget := Wire.GetByte_any _ sk G wr hv.out
        have hsx := Wire.rdByte_snd sk
        rw [show getO 2 sk = rdByte sk from rfl] at hgo2
        generalize rdByte sk = z at *
        have HGO := Lib.hid hgo2
        clear hgo2
        go_wp2_with (first
          | (refine wpList_load_row rfl 85 _ rfl w.heap.size rfl 85 _ (0, 0) _ hB1 Tryd.underlying85 rfl (sizeRd _ _) ?_)
          | (go_at_call 112; (with_reducible refine hget.mono ?_); clear hget; rintro e w5 ⟨⟨v5, rfl, hv5⟩, hb5⟩; obtain ⟨p5, n5, c5, rfl⟩ := hv5.shape; have x1 := hB1.below hb5 hB1.lt; have xd := hBD.below hb5 hBD.lt)
          | (refine wpList_store_row rfl 85 _ _ rfl w.heap.size #[.slice p5 n5 c5, .int .i64 (z.1.code : Int)] rfl rfl 85 _ x1 (sizeRd _ _) rfl (oneRd _ trivial) ?_; have y1 := x1.row #[.slice p5 n5 c5, .int .i64 (z.1.code : Int)]; have yd := xd.foot (foot_setRow w5 w.heap.size #[.slice p5 n5 c5, .int .i64 (z.1.code : Int)]) (by omega); have hcd : (w5.setRow w.heap.size #[.slice p5 n5 c5, .int .i64 (z.1.code : Int)]).cell? ⟨gd, 3, none⟩ = some (.int .i64 dk.r) := yd.cell 3; have hfd := yd.frozen 3))
        go_roundw
        case rel => exact ⟨k + 1, _, z.1, p5, n5, c5, by omega, by go_num, HGO, Lib.hid (rs_foot (hv5.later hb5) (((Foot.refl (fun b => b = w.heap.size ∨ b = gd) w5).row' (.inl rfl) _).setCell (p := ⟨gd, 3, none⟩) (.inl (.inr rfl)) _) (fun kk hk e => by have := hG kk hk; omega)), y1.far (by show w.heap.size ≠ gd; omega) _, (blk_put yd 3 _ rfl).1, ((hfoot.trans (Foot.of_below _ hb5)).row' (.inl rfl) _).setCell (p := ⟨gd, 3, none⟩) (.inl (.inr rfl)) _⟩
        case measure => simp [intOf]; omega
      · replace hi : ∀ W, (Instr.index 9 (.string s) (.int .i64 (k : Int))).run Tryd.prog W = .ok (.int .u8 78) W := hi
        have hget := Wire.GetNum_any _ sk G wr hG1 hv.out
        skip
        rw [show getO 3 sk = rdNum sk from rfl] at hgo2
        generalize rdNum sk = z at *
        have HGO := Lib.hid hgo2
        clear hgo2
        go_wp2_with (first
          | (refine wpList_load_row rfl 85 _ rfl w.heap.size rfl 85 _ (0, 0) _ hB1 Tryd.underlying85 rfl (sizeRd _ _) ?_)
          | (go_at_call 95; (with_reducible refine hget.mono ?_); clear hget; rintro e w5 ⟨⟨v5, rfl, hv5⟩, hb5⟩; obtain ⟨p5, n5, c5, rfl⟩ := hv5.shape; have x1 := hB1.below hb5 hB1.lt; have xd := hBD.below hb5 hBD.lt)
          | (refine wpList_store_row rfl 85 _ _ rfl w.heap.size #[.slice p5 n5 c5, .int .i64 (z.1.code : Int)] rfl rfl 85 _ x1 (sizeRd _ _) rfl (oneRd _ trivial) ?_; have y1 := x1.row #[.slice p5 n5 c5, .int .i64 (z.1.code : Int)]; have yd := xd.foot (foot_setRow w5 w.heap.size #[.slice p5 n5 c5, .int .i64 (z.1.code : Int)]) (by omega); have hcd : (w5.setRow w.heap.size #[.slice p5 n5 c5, .int .i64 (z.1.code : Int)]).cell? ⟨gd, 4, none⟩ = some (.int .u64 (dk.n : Int)) := yd.cell 4; have hfd := yd.frozen 4))
        go_roundw
        case rel => exact ⟨k + 1, _, z.1, p5, n5, c5, by omega, by go_num, HGO, Lib.hid (rs_foot (hv5.later hb5) (((Foot.refl (fun b => b = w.heap.size ∨ b = gd) w5).row' (.inl rfl) _).setCell (p := ⟨gd, 4, none⟩) (.inl (.inr rfl)) _) (fun kk hk e => by have := hG kk hk; omega)), y1.far (by show w.heap.size ≠ gd; omega) _, (blk_put yd 4 _ rfl).1, ((hfoot.trans (Foot.of_below _ hb5)).row' (.inl rfl) _).setCell (p := ⟨gd, 4, none⟩) (.inl (.inr rfl)) _⟩
        case measure => simp [intOf]; omega
      · replace hi : ∀ W, (Instr.index 9 (.string s) (.int .i64 (k : Int))).run Tryd.prog W = .ok (.int .u8 78) W := hi
        have hget := Wire.GetNum_any _ sk G wr hG1 hv.out
        skip
        rw [show getO 4 sk = rdNum sk from rfl] at hgo2
        generalize rdNum sk = z at *
        have HGO := Lib.hid hgo2
        clear hgo2
        go_wp2_with (first
          | (refine wpList_load_row rfl 85 _ rfl w.heap.size rfl 85 _ (0, 0) _ hB1 Tryd.underlying85 rfl (sizeRd _ _) ?_)
          | (go_at_call 95; (with_reducible refine hget.mono ?_); clear hget; rintro e w5 ⟨⟨v5, rfl, hv5⟩, hb5⟩; obtain ⟨p5, n5, c5, rfl⟩ := hv5.shape; have x1 := hB1.below hb5 hB1.lt; have xd := hBD.below hb5 hBD.lt)
          | (refine wpList_store_row rfl 85 _ _ rfl w.heap.size #[.slice p5 n5 c5, .int .i64 (z.1.code : Int)] rfl rfl 85 _ x1 (sizeRd _ _) rfl (oneRd _ trivial) ?_; have y1 := x1.row #[.slice p5 n5 c5, .int .i64 (z.1.code : Int)]; have yd := xd.foot (foot_setRow w5 w.heap.size #[.slice p5 n5 c5, .int .i64 (z.1.code : Int)]) (by omega); have hcd : (w5.setRow w.heap.size #[.slice p5 n5 c5, .int .i64 (z.1.code : Int)]).cell? ⟨gd, 4, none⟩ = some (.int .u64 (dk.n : Int)) := yd.cell 4; have hfd := yd.frozen 4))
        go_roundw
        case rel => exact ⟨k + 1, _, z.1, p5, n5, c5, by omega, by go_num, HGO, Lib.hid (rs_foot (hv5.later hb5) (((Foot.refl (fun b => b = w.heap.size ∨ b = gd) w5).row' (.inl rfl) _).setCell (p := ⟨gd, 4, none⟩) (.inl (.inr rfl)) _) (fun kk hk e => by have := hG kk hk; omega)), y1.far (by show w.heap.size ≠ gd; omega) _, (blk_put yd 4 _ rfl).1, ((hfoot.trans (Foot.of_below _ hb5)).row' (.inl rfl) _).setCell (p := ⟨gd, 4, none⟩) (.inl (.inr rfl)) _⟩
        case measure => simp [intOf]; omega
      · replace hi : ∀ W, (Instr.index 9 (.string s) (.int .i64 (k : Int))).run Tryd.prog W = .ok (.int .u8 77) W := hi
        have hget := Wire.GetNum_any _ sk G wr hG1 hv.out
        skip
        rw [show getO 5 sk = rdNum sk from rfl] at hgo2
        generalize rdNum sk = z at *
        have HGO := Lib.hid hgo2
        clear hgo2
        go_wp2_with (first
          | (refine wpList_load_row rfl 85 _ rfl w.heap.size rfl 85 _ (0, 0) _ hB1 Tryd.underlying85 rfl (sizeRd _ _) ?_)
          | (go_at_call 95; (with_reducible refine hget.mono ?_); clear hget; rintro e w5 ⟨⟨v5, rfl, hv5⟩, hb5⟩; obtain ⟨p5, n5, c5, rfl⟩ := hv5.shape; have x1 := hB1.below hb5 hB1.lt; have xd := hBD.below hb5 hBD.lt)
          | (refine wpList_store_row rfl 85 _ _ rfl w.heap.size #[.slice p5 n5 c5, .int .i64 (z.1.code : Int)] rfl rfl 85 _ x1 (sizeRd _ _) rfl (oneRd _ trivial) ?_; have y1 := x1.row #[.slice p5 n5 c5, .int .i64 (z.1.code : Int)]; have yd := xd.foot (foot_setRow w5 w.heap.size #[.slice p5 n5 c5, .int .i64 (z.1.code : Int)]) (by omega); have hcd : (w5.setRow w.heap.size #[.slice p5 n5 c5, .int .i64 (z.1.code : Int)]).cell? ⟨gd, 5, none⟩ = some (.int .u64 (dk.mask : Int)) := yd.cell 5; have hfd := yd.frozen 5))
        go_roundw
        case rel => exact ⟨k + 1, _, z.1, p5, n5, c5, by omega, by go_num, HGO, Lib.hid (rs_foot (hv5.later hb5) (((Foot.refl (fun b => b = w.heap.size ∨ b = gd) w5).row' (.inl rfl) _).setCell (p := ⟨gd, 5, none⟩) (.inl (.inr rfl)) _) (fun kk hk e => by have := hG kk hk; omega)), y1.far (by show w.heap.size ≠ gd; omega) _, (blk_put yd 5 _ rfl).1, ((hfoot.trans (Foot.of_below _ hb5)).row' (.inl rfl) _).setCell (p := ⟨gd, 5, none⟩) (.inl (.inr rfl)) _⟩
        case measure => simp [intOf]; omega
      · replace hi : ∀ W, (Instr.index 9 (.string s) (.int .i64 (k : Int))).run Tryd.prog W = .ok (.int .u8 76) W := hi
        have hget := Wire.GetTruth_any _ sk G wr hG1 hv.out
        skip
        rw [show getO 6 sk = ((truth (rdByte sk)).1, if (truth (rdByte sk)).2 = true then 1 else 0) from rfl] at hgo2
        generalize truth (rdByte sk) = z at *
        have HGO := Lib.hid hgo2
        clear hgo2
        go_wp2_with (first
          | (refine wpList_load_row rfl 85 _ rfl w.heap.size rfl 85 _ (0, 0) _ hB1 Tryd.underlying85 rfl (sizeRd _ _) ?_)
          | (go_at_call 114; (with_reducible refine hget.mono ?_); clear hget; rintro e w5 ⟨⟨v5, rfl, hv5⟩, hb5⟩; obtain ⟨p5, n5, c5, rfl⟩ := hv5.shape; have x1 := hB1.below hb5 hB1.lt; have xd := hBD.below hb5 hBD.lt)
          | (refine wpList_store_row rfl 85 _ _ rfl w.heap.size #[.slice p5 n5 c5, .int .i64 (z.1.code : Int)] rfl rfl 85 _ x1 (sizeRd _ _) rfl (oneRd _ trivial) ?_; have y1 := x1.row #[.slice p5 n5 c5, .int .i64 (z.1.code : Int)]; have yd := xd.foot (foot_setRow w5 w.heap.size #[.slice p5 n5 c5, .int .i64 (z.1.code : Int)]) (by omega); have hcd : (w5.setRow w.heap.size #[.slice p5 n5 c5, .int .i64 (z.1.code : Int)]).cell? ⟨gd, 6, none⟩ = some (.bool dk.loose) := yd.cell 6; have hfd := yd.frozen 6))
        go_roundw
        case rel => exact ⟨k + 1, _, z.1, p5, n5, c5, by omega, by go_num, HGO, Lib.hid (rs_foot (hv5.later hb5) (((Foot.refl (fun b => b = w.heap.size ∨ b = gd) w5).row' (.inl rfl) _).setCell (p := ⟨gd, 6, none⟩) (.inl (.inr rfl)) _) (fun kk hk e => by have := hG kk hk; omega)), y1.far (by show w.heap.size ≠ gd; omega) _, by rw [show (setD 6 (if z.2 = true then 1 else 0) dk).cells = (setD 6 (if z.2 = true then 1 else 0) dk).cells from rfl]; exact (blk_put yd 6 _ (by cases z.2 <;> rfl)).1, ((hfoot.trans (Foot.of_below _ hb5)).row' (.inl rfl) _).setCell (p := ⟨gd, 6, none⟩) (.inl (.inr rfl)) _⟩
        case measure => simp [intOf]; omega
    · obtain rfl : k = os.length := by omega
      have hgo2 := hgo.out
      rw [List.drop_length, getGo] at hgo2
      injection hgo2 with e1 e2
      subst e1 e2
      have hgood := RGood_any dk wr
      simp only [Deed.val] at hgood
      clear hgo
      by_cases hz : sk.code = 0
      · have hv0 := hv.out.back hbw5 hG
        rw [hz] at hv0
        have HV0 := Lib.hid hv0
        clear hv0
        have ty0 : ((sk.code : Int) == 0) = true := by rw [hz]; rfl
        rw [hz] at hB1
        have hc1 : wr.cell? ⟨w.heap.size, 1, none⟩ = some (.int .i64 0) := hB1.cell 1
        have HZ := Lib.hid hz
        clear hz ty0
        by_cases hg : goodD dk = true
        · have HDY := Lib.hid (HR0.out HZ.out hg)
          rw [hg] at hgood
          injection HDY.out with eD ey
          subst eD ey
          clear HDY hg HR0 HR1 HR2
          have HDY : Hid (((0 : Nat) : Int) = 0) := Lib.hid rfl
          go_wp2_with (first
            | (refine wpList_load_row_g rfl 45 _ rfl gd rfl 45 _ (0, 0) _ hBD Tryd.underlying45 rfl (sizeD _) ?_)
            | (go_at_call 32; (with_reducible refine hgood.mono ?_); clear hgood; rintro e w6 ⟨rfl, hb6⟩; have b1 := hB1.below hb6 hB1.lt; replace b2 := b2.below hb6 b2.lt; replace b3 := b3.below hb6 b3.lt; have bd := hBD.below hb6 hBD.lt; have hbw6 := below_pre hbw5 hb6; have hc6 : w6.cell? ⟨w.heap.size, 1, none⟩ = some (.int .i64 0) := b1.cell 1))
          replace b1 : Blk w6.drew w.heap.size 85 #[.slice pk nk ck, .int .i64 0] := b1
          replace b2 : Blk w6.drew (w.heap.size + 1) 85 #[.slice none 0 0, .int .i64 0] := b2
          replace b3 : Blk w6.drew (w.heap.size + 2) 45 zeroD.cells := b3
          replace bd : Blk w6.drew gd 45 D.cells := bd
          refine wp_region_held_drew (S := fun w' => Blk w' w.heap.size 85 #[.slice pk nk ck, .int .i64 0] ∧ Blk w' gd 45 D.cells) (by kernel_rfl) ⟨b1, bd⟩ (fun hS0 => ?_)
          refine wpAnyH_take (i := 0) (v := .agg #[.slice pk nk ck, .int .i64 0]) rfl (by kernel_rfl) (by kernel_rfl) (by kernel_rfl) (fun _ _ _ h => h) (yields_row (by rfl) 85 _ rfl w.heap.size rfl 85 _ (0, 0) _ (fun w1 hS1 => hS1.1) Tryd.underlying85 rfl (sizeRd _ _)) hS0 ?_
          try simp only [List.getElem_toArray, List.getElem_cons_zero, Act.put, List.setIfInBounds_toArray, List.set_cons_zero, List.set_cons_succ]
          refine wpAnyH_take (i := 1) (v := .agg D.cells) rfl (by kernel_rfl) (by kernel_rfl) (by kernel_rfl) (fun _ _ _ h => h) (yields_row (by rfl) 45 _ rfl gd rfl 45 _ (0, 0) _ (fun w1 hS1 => hS1.2) Tryd.underlying45 rfl (sizeD _)) hS0 ?_
          try simp only [List.getElem_toArray, List.getElem_cons_zero, List.getElem_cons_succ, Act.put, List.setIfInBounds_toArray, List.set_cons_zero, List.set_cons_succ]
          refine wpAnyH_ready (rs := [2]) (by kernel_rfl) (by simp) ?_
          refine AllReadyH.cons rfl (fun K hK => ?_) AllReadyH.nil
          refine step_store_row rfl 85 _ _ rfl (w.heap.size + 1) #[.slice pk nk ck, .int .i64 0] rfl rfl 85 _ b2 (sizeRd _ _) rfl (oneRd _ trivial) ?_
          have u2 := b2.row #[.slice pk nk ck, .int .i64 0]
          have u3 := b3.foot (foot_setRow _ (w.heap.size + 1) #[.slice pk nk ck, .int .i64 0]) (by omega)
          refine hK.out _ _ (⟨hS0.1.foot (foot_setRow _ (w.heap.size + 1) _) (by omega), hS0.2.foot (foot_setRow _ (w.heap.size + 1) _) (by omega)⟩) (fun hS1 => ?_); clear hK K
          refine wpAnyH_ready (rs := [3]) (by kernel_rfl) (by simp) ?_
          refine AllReadyH.cons rfl (fun K hK => ?_) AllReadyH.nil
          refine step_store_row rfl 45 _ _ rfl (w.heap.size + 2) D.cells rfl rfl 45 _ u3 (sizeD _) rfl (oneD _) ?_
          have q2 := u2.foot (foot_setRow _ (w.heap.size + 2) D.cells) (by omega)
          have q3 := u3.row D.cells
          refine hK.out _ _ (⟨hS1.1.foot (foot_setRow _ (w.heap.size + 2) _) (by omega), hS1.2.foot (foot_setRow _ (w.heap.size + 2) _) (by omega)⟩) (fun hS2 => ?_); clear hK K
          refine wpAnyH_done (by kernel_rfl) ?_ _
          go_wp2
          refine bodyPost_ret (results_row_row rfl _ _ (w.heap.size + 1) 85 #[.slice pk nk ck, .int .i64 0] (0, 0) _ rfl q2 Tryd.underlying85 rfl (sizeRd _ _) (w.heap.size + 2) 45 D.cells (0, 0) _ rfl q3 Tryd.underlying45 rfl (sizeD _)) rfl ?_
          have HB := (hbw6.drew.trans (foot_row (w := w6.drew) (B := w.heap.size) (r := w.heap.size + 1) #[.slice pk nk ck, .int .i64 0] (by omega))).trans (foot_row (B := w.heap.size) (r := w.heap.size + 2) D.cells (by omega))
          exact ⟨⟨_, _, _, rfl, HV0.out.later HB⟩, HB⟩
        · have hg' : goodD dk = false := by simpa using hg
          have HDY := Lib.hid (HR1.out HZ.out hg')
          rw [hg'] at hgood
          injection HDY.out with eD ey
          subst eD ey
          clear HDY hg hg' HR0 HR1 HR2
          go_wp2_with (first
            | (refine wpList_load_row_g rfl 45 _ rfl gd rfl 45 _ (0, 0) _ hBD Tryd.underlying45 rfl (sizeD _) ?_)
            | (go_at_call 32; (with_reducible refine hgood.mono ?_); clear hgood; rintro e w6 ⟨rfl, hb6⟩; replace b2 := b2.below hb6 b2.lt; replace b3 := b3.below hb6 b3.lt; have hbw6 := below_pre hbw5 hb6)
            | (refine wpList_store_row rfl 85 _ _ rfl (w.heap.size + 1) #[.slice none 0 0, .int .i64 5] rfl rfl 85 _ b2 (sizeRd _ _) rfl (oneRd _ trivial) ?_; have u2 := b2.row #[.slice none 0 0, .int .i64 5]; have u3 := b3.foot (foot_setRow _ (w.heap.size + 1) #[.slice none 0 0, .int .i64 5]) (by omega))
            | (refine wpList_store_row rfl 45 _ _ rfl (w.heap.size + 2) zeroD.cells rfl rfl 45 _ u3 (sizeD _) rfl (oneD _) ?_; have q2 := u2.foot (foot_setRow _ (w.heap.size + 2) zeroD.cells) (by omega); have q3 := u3.row zeroD.cells))
          refine bodyPost_ret (results_row_row rfl _ _ (w.heap.size + 1) 85 #[.slice none 0 0, .int .i64 5] (0, 0) _ rfl q2 Tryd.underlying85 rfl (sizeRd _ _) (w.heap.size + 2) 45 zeroD.cells (0, 0) _ rfl q3 Tryd.underlying45 rfl (sizeD _)) rfl ?_
          exact ⟨⟨_, _, _, rfl, Wire.RsV.nil (by decide)⟩, (hbw6.trans (foot_row _ (by omega))).trans (foot_row _ (by omega))⟩
      · have ty0 : ((sk.code : Int) == 0) = false := by rw [beq_eq_false_iff_ne]; omega
        have ty1 : ((sk.code : Int) != 0) = true := by simp; omega
        have HDY := Lib.hid (HR2.out hz)
        injection HDY.out with eD ey
        subst eD ey
        have hc1 : wr.cell? ⟨w.heap.size, 1, none⟩ = some (.int .i64 (sk.code : Int)) := hB1.cell 1
        have HZ := Lib.hid hz
        clear HDY hz HR0 HR1 HR2
        go_wp2_with (first
          | (refine wpList_load_row rfl 85 _ rfl w.heap.size rfl 85 _ (0, 0) _ hB1 Tryd.underlying85 rfl (sizeRd _ _) ?_)
          | (refine wpList_store_row rfl 85 _ _ rfl (w.heap.size + 1) #[.slice pk nk ck, .int .i64 (sk.code : Int)] rfl rfl 85 _ b2 (sizeRd _ _) rfl (oneRd _ trivial) ?_; have u2 := b2.row #[.slice pk nk ck, .int .i64 (sk.code : Int)]; have u3 := b3.foot (foot_setRow _ (w.heap.size + 1) #[.slice pk nk ck, .int .i64 (sk.code : Int)]) (by omega))
          | (refine wpList_store_row rfl 45 _ _ rfl (w.heap.size + 2) zeroD.cells rfl rfl 45 _ u3 (sizeD _) rfl (oneD _) ?_; have q2 := u2.foot (foot_setRow _ (w.heap.size + 2) zeroD.cells) (by omega); have q3 := u3.row zeroD.cells))
        refine bodyPost_ret (results_row_row rfl _ _ (w.heap.size + 1) 85 #[.slice pk nk ck, .int .i64 (sk.code : Int)] (0, 0) _ rfl q2 Tryd.underlying85 rfl (sizeRd _ _) (w.heap.size + 2) 45 zeroD.cells (0, 0) _ rfl q3 Tryd.underlying45 rfl (sizeD _)) rfl ?_
        exact ⟨⟨_, _, _, rfl, rs_bad hv.out HZ.out⟩, (hbw5.trans (foot_row _ (by omega))).trans (foot_row _ (by omega))⟩
end Go.Proofs.YtlgjbcmkhcgigaaDoor

namespace Go.Proofs.YtlgjbcmkhcgigaaDoor
open Go.RowKit
open Wire (RS rdByte rdNum truth RsV)

theorem RGet_any (p : Option Addr) (n c : Nat) (y0 : Int) (st : RS) (G : Nat → Prop) (w : World) (hG : ∀ k, G k → k < w.heap.size) (h : RsV w G (.agg #[.slice p n c, .int .i64 y0]) st) :
    Calls Tryd.prog 96 #[.agg #[.slice p n c, .int .i64 y0]] w fun e w' => (∃ p n c, e = .returned (.tuple #[.agg #[.slice p n c, .int .i64 ((getD st).2.2 : Int)], .agg (getD st).2.1.cells]) ∧ RsV w' G (.agg #[.slice p n c, .int .i64 ((getD st).2.2 : Int)]) (outS (getD st).2.2 (getD st).1)) ∧ Below w.heap.size w w' := by
  unfold getD
  by_cases hc : (rdByte st).1.code = 0
  · rw [if_pos hc]
    by_cases ho : isOp (rdByte st).2 = true
    · rw [if_pos ho]
      unfold getRest
      have hend := end_get ((rdByte st).2 : Int) ho (getAll (opr (rdByte st).2) (rdByte st).1).2 (getAll_len _ _)
      have hgo := getGo_eq (opr (rdByte st).2) (rdByte st).1 (opD (rdByte st).2)
      generalize getAll (opr ((rdByte st).2 : Int)) (rdByte st).1 = A at *
      generalize setAll (opr ((rdByte st).2 : Int)) A.2 (opD ((rdByte st).2 : Int)) = dF at *
      by_cases hz : A.1.code = 0
      · rw [if_pos hz, hend]
        by_cases hg : goodD dF = true
        · rw [if_pos hg]
          exact RGet_rest p n c y0 st G w hG h hc ho A.1 dF dF 0 hgo (fun _ _ => rfl) (fun _ k => by rw [hg] at k; cases k) (fun k => absurd hz k)
        · rw [if_neg hg]
          exact RGet_rest p n c y0 st G w hG h hc ho A.1 dF zeroD 5 hgo (fun _ k => absurd k hg) (fun _ _ => rfl) (fun k => absurd hz k)
      · rw [if_neg hz]
        exact RGet_rest p n c y0 st G w hG h hc ho A.1 dF zeroD A.1.code hgo (fun k => absurd k hz) (fun k => absurd k hz) (fun _ => rfl)
    · rw [if_neg ho]
      exact RGet_op p n c y0 st G w h hc ho
  · rw [if_neg hc]
    exact RGet_err p n c y0 st G w h hc
end Go.Proofs.YtlgjbcmkhcgigaaDoor
