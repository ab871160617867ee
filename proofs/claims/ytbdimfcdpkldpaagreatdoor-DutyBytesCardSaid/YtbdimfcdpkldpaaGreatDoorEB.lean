/- The contracts of duty's get, getCount, getProgs, getStarts and getDraft. The contract of a draft's tooGreat. The contract of duty's getDraft. The contract of duty's Decode. -/
import Derived.Test.YtbdimfcdpkldpaaGreatDoorYM9
import Derived.Test.YtbdimfcdpkldpaaGreatDoorZ11
import Derived.Test.YtbdimfcdpkldpaaGreatDoorZ15
import Derived.Test.YtbdimfcdpkldpaaGreatDoorLV
import Derived.Test.YtbdimfcdpkldpaaGreatDoorLD9
import Derived.Test.YtbdimfcdpkldpaaGreatDoorZ14
namespace Go.Proofs.YtbdimfcdpkldpaaGreatDoor
open Go.RowKit
open Wire (RS rdNum RdAt RdOut bV)

theorem rdNums_lt : ∀ (n : Nat) (st : RS), ∀ x ∈ (rdNums n st).2, x < 18446744073709551616
  | 0, _, x, h => by simp [rdNums] at h
  | n + 1, st, x, h => by
    rw [rdNums] at h
    rcases List.mem_cons.1 h with rfl | h
    · exact Wire.rdNum_lt st
    · exact rdNums_lt n _ x h
theorem rdNums_step {n : Nat} {acc : List Nat} {st : RS} {R : RS × List Nat} (h : ((rdNums (n + 1) st).1, acc ++ (rdNums (n + 1) st).2) = R) : ((rdNums n (rdNum st).1).1, (acc ++ [(rdNum st).2]) ++ (rdNums n (rdNum st).1).2) = R := by
  rw [← h, rdNums]
  simp

set_option maxRecDepth 100000 in
set_option maxHeartbeats 2000000 in
theorem GetY_any (n r : Nat) (hn : n ≤ 10) (st : RS) (w : World) (h : RdAt w r st) :
    Calls Tryz.prog 89 #[.pointer (some ⟨r, 0, none⟩), .int .i64 n] w fun e w' => (∃ v, e = .returned v ∧ w'.ownsRow w.heap.size 22 1 v n ((rdNums n st).2.map uV)) ∧ RdOut w w' r (rdNums n st).1 := by
  obtain ⟨i0, hi, hz0, hz1, hz2⟩ := info_parts infoU
  have hrl := h.lt
  obtain ⟨R, hR⟩ : ∃ R, rdNums n st = R := ⟨_, rfl⟩
  rw [hR]
  have HR0 : Hid (((rdNums (n - 0) st).1, [] ++ (rdNums (n - 0) st).2) = R) := Lib.hid hR
  have HO := Lib.hid h.out
  clear hR h
  go_enter Tryz.func89, Tryz.ntmps89
  go_wp2
  go_loopw [5, 7] (fun x t wr => ∃ (k : Nat) (acc : List Nat) (S : RS), k ≤ n ∧ t = .int .i64 k ∧ acc.length = k ∧ Hid (((rdNums (n - k) S).1, acc ++ (rdNums (n - k) S).2) = R) ∧ wr.ownsRow w.heap.size 22 1 x k (acc.map uV) ∧ Hid (RdOut w wr r S)) (fun _ t _ => n - (intOf t).toNat)
  case atStart => exact ⟨0, [], st, by omega, rfl, rfl, HR0, World.ownsRow_nil _ _ _ _, HO⟩
  case round =>
    obtain ⟨k, acc, S, hk, rfl, hal, hX, hown, hrd⟩ := hrel
    clear HR0 HO
    by_cases hlt : k < n
    · have hx := hX.out
      rw [show n - k = n - (k + 1) + 1 by omega] at hx
      have HX := Lib.hid (rdNums_step hx)
      have hg := Wire.RdNum_any r S wr hrd.out.1
      generalize rdNum S = q at hg HX
      obtain ⟨S1, x⟩ := q
      simp only at hg
      have hsz := hrd.out.2.size
      clear hx hX
      go_wp2_with (first
        | (go_at_call 130; (with_reducible refine hg.mono ?_); clear hg; rintro e w2 ⟨rfl, hrd2⟩; have hown2 := hrd2.2.own hown (fun j hj (e : j = r) => by have := (hown.lt j hj).1; omega); have hF2 := hrd.out.2.trans hrd2.2)
        | (at_builtin; refine wpList_append_lits rfl _ _ 54 rfl w.heap.size 22 i0 (.int .u64 0) 8 Tryz.underlying54 hi hz0 hz1 hz2 rfl (by decide) hown2 rfl _ rfl rfl rfl (by omega) hF2.size ?_; intro v' w5 hown5 hb5 _ hf5))
      have hrd5 : RdOut w w5 r S1 := ⟨hrd2.1.under hb5 hrl, hF2.then_ hf5 (fun x hx => .inr (hown2.lt x hx).1)⟩
      go_roundw
      case rel => exact ⟨k + 1, acc ++ [x], S1, by omega, by go_num, by simp [hal], HX, by rw [List.map_append]; exact hown5, Lib.hid hrd5⟩
      case measure => simp [intOf]; omega
    · obtain rfl : k = n := by omega
      have hx := hX.out
      rw [Nat.sub_self, rdNums, List.append_nil] at hx
      have HX := Lib.hid hx
      clear hx hX
      go_wp2
      go_ret
      rw [← HX.out]
      exact ⟨⟨_, rfl, hown⟩, hrd.out⟩

theorem GetY_at (nI : Int) (n r : Nat) (e1 : nI = (n : Int)) (hn : n ≤ 10) (st : RS) (w : World) (h : RdAt w r st) :
    Calls Tryz.prog 89 #[.pointer (some ⟨r, 0, none⟩), .int .i64 nI] w fun e w' => (∃ v, e = .returned v ∧ w'.ownsRow w.heap.size 22 1 v n ((rdNums n st).2.map uV)) ∧ RdOut w w' r (rdNums n st).1 := by
  subst e1
  exact GetY_any n r hn st w h

theorem GetCount_any (r : Nat) (st : RS) (w : World) (h : RdAt w r st) :
    Calls Tryz.prog 131 #[.pointer (some ⟨r, 0, none⟩), .int .u64 64] w fun e w' => e = .returned (.tuple #[.int .u64 ((if 64 < (rdNum st).2 then 0 else (rdNum st).2 : Nat) : Int), .int .i64 ((if 64 < (rdNum st).2 then 4 else 0 : Nat) : Int)]) ∧ RdOut w w' r (rdNum st).1 := by
  have hg := Wire.RdNum_any r st w h
  generalize rdNum st = q at *
  obtain ⟨S, n⟩ := q
  simp only at hg ⊢
  clear h
  by_cases hn : 64 < n
  · rw [if_pos hn, if_pos hn]
    have tn : decide ((n : Int) > 64) = true := by simp; omega
    clear hn
    go_enter Tryz.func131, Tryz.ntmps131
    go_wp2_with (go_at_call 130; (with_reducible refine hg.mono ?_); clear hg; rintro e w2 ⟨rfl, hrd2⟩)
    go_ret2
    exact ⟨rfl, hrd2⟩
  · rw [if_neg hn, if_neg hn]
    have tn : decide ((n : Int) > 64) = false := by simp; omega
    clear hn
    go_enter Tryz.func131, Tryz.ntmps131
    go_wp2_with (go_at_call 130; (with_reducible refine hg.mono ?_); clear hg; rintro e w2 ⟨rfl, hrd2⟩)
    go_ret2
    exact ⟨rfl, hrd2⟩

theorem progsP_step {n : Nat} {acc : List (List Deed)} {st : RS} {R : RS × List (List Deed) × Nat} (h : progsP (n + 1) acc st = R) (h0 : (getP st).2.2 = 0) : progsP n (acc ++ [(getP st).2.1]) (getP st).1 = R := by
  rw [← h, progsP, if_pos h0]
theorem progsP_stop {n : Nat} {acc : List (List Deed)} {st : RS} {R : RS × List (List Deed) × Nat} (h : progsP (n + 1) acc st = R) (h0 : ¬ (getP st).2.2 = 0) : R = ((getP st).1, acc ++ [(getP st).2.1], (getP st).2.2) := by
  rw [← h, progsP, if_neg h0]

/-- The outer row of a row of rows, behind a step of a reader's that lies ahead of it. -/
theorem OPP.outer2 {tS tD : TypeId} {w w2 : World} {B r : Nat} {v : Value} {pss : List (List Deed)} (h : OPP tS tD w B v pss) (hne : tS ≠ tD) (h2 : Foot (fun k => k = r) w w2) (hr : r < B) : ∃ us : List Value, us.length = pss.length ∧ w2.ownsRow B tS 1 v pss.length us ∧
    ∀ (v' u' : Value) (ps : List Deed) (w1 : World), w1.ownsRow B tS 1 v' (pss.length + 1) (us ++ [u']) → Foot (fun k => v.ownBlock = some k) w2 w1 → w1.ownsRow B tD 7 u' ps.length (ps.flatMap dCells) →
      (∀ k, u'.ownBlock = some k → w.heap.size ≤ k) → OPP tS tD w1 B v' (pss ++ [ps]) := by
  obtain ⟨us, hl, ho, he, ha⟩ := h
  have ho2 := h2.own ho (fun k hk e => by have := (ho.lt k hk).1; omega)
  refine ⟨us, hl, ho2, fun v' u' ps w1 ho1 hf hu1 hnew => ⟨us ++ [u'], by simp [hl], by simpa using ho1, fun k u p hu hp => ?_, fun i j a b hij hi hj k hk => ?_⟩⟩
  · by_cases hk : k < us.length
    · rw [List.getElem?_append_left hk] at hu
      rw [List.getElem?_append_left (by omega)] at hp
      have hin := he k u p hu hp
      have hin2 := h2.own hin (fun k hk e => by have := (hin.lt k hk).1; omega)
      exact hf.own hin2 (own_apart hin2 ho2 (fun e => hne e.symm))
    · rw [List.getElem?_append_right (by omega)] at hu
      rw [List.getElem?_append_right (by omega), ← hl] at hp
      have h0 : k - us.length = 0 := by
        have := (List.getElem?_eq_some_iff.1 hu).1
        simp at this
        omega
      rw [h0] at hu hp
      simp at hu hp
      subst hu hp
      exact hu1
  · have old : ∀ (i : Nat) (a : Value), us[i]? = some a → ∀ k, a.ownBlock = some k → k < w.heap.size := fun i a hi k hk => by
      obtain ⟨p, hp⟩ : ∃ p, pss[i]? = some p := ⟨_, List.getElem?_eq_getElem (by rw [← hl]; exact (List.getElem?_eq_some_iff.1 hi).1)⟩
      exact ((he i a p hi hp).lt k hk).2
    have last : ∀ (i : Nat) (a : Value), (us ++ [u'])[i]? = some a → (i < us.length ∧ us[i]? = some a) ∨ (i = us.length ∧ a = u') := fun i a hi => by
      by_cases hlt : i < us.length
      · rw [List.getElem?_append_left hlt] at hi
        exact .inl ⟨hlt, hi⟩
      · rw [List.getElem?_append_right (by omega)] at hi
        have h0 : i - us.length = 0 := by
          have := (List.getElem?_eq_some_iff.1 hi).1
          simp at this
          omega
        rw [h0] at hi
        simp at hi
        exact .inr ⟨by omega, hi.symm⟩
    intro hk'
    rcases last i a hi with ⟨_, hi2⟩ | ⟨hi2, ea⟩
    · rcases last j b hj with ⟨_, hj2⟩ | ⟨hj2, eb⟩
      · exact ha i j a b hij hi2 hj2 k hk hk'
      · rw [eb] at hk'
        have := hnew k hk'
        have := old i a hi2 k hk
        omega
    · rcases last j b hj with ⟨_, hj2⟩ | ⟨hj2, eb⟩
      · rw [ea] at hk
        have := hnew k hk
        have := old j b hj2 k hk'
        omega
      · omega

set_option maxRecDepth 100000 in
set_option maxHeartbeats 4000000 in
theorem GetProgs_any (r : Nat) (st : RS) (w : World) (h : RdAt w r st) :
    Calls Tryz.prog 90 #[.pointer (some ⟨r, 0, none⟩)] w fun e w' => (∃ v, e = .returned (.tuple #[v, .int .i64 ((getPsY st).2.2 : Int)]) ∧ OPP 45 109 w' w.heap.size v (getPsY st).2.1) ∧ RdOut w w' r (getPsY st).1 := by
  obtain ⟨i0, hi, hz0, hz1, hz2⟩ := info_parts (show (Tryz.prog.info? 45).map (fun i => (i.zero, i.size, i.bytes)) = some (some (.slice none 0 0), 1, 24) by kernel_rfl)
  have hrl := h.lt
  have hcnt := GetCount_any r st w h
  obtain ⟨R, hR⟩ : ∃ R, getPsY st = R := ⟨_, rfl⟩
  rw [hR]
  unfold getPsY at hR
  generalize rdNum st = q at hcnt hR
  obtain ⟨S1, n⟩ := q
  simp only at hcnt hR
  clear h
  by_cases hn : 64 < n
  · rw [if_pos hn] at hR
    rw [if_pos hn, if_pos hn] at hcnt
    subst hR
    clear hn
    go_enter Tryz.func90, Tryz.ntmps90
    go_wp2_with (go_at_call 131; (with_reducible refine hcnt.mono ?_); clear hcnt; rintro e w1 ⟨rfl, hrd1⟩)
    have HRD1 := Lib.hid hrd1
    clear hrd1
    go_loopw [5, 6, 7] (fun c v t wr => c = .int .i64 4 ∧ v = .slice none 0 0 ∧ t = .int .u64 0 ∧ wr = w1) (fun _ _ _ _ => 0)
    case atStart => exact ⟨rfl, rfl, rfl, rfl⟩
    case round =>
      obtain ⟨rfl, rfl, rfl, rfl⟩ := hrel
      go_wp2
      go_ret2
      exact ⟨⟨_, rfl, OPP.nil _ _⟩, HRD1.out⟩
  · rw [if_neg hn] at hR
    rw [if_neg hn, if_neg hn] at hcnt
    have HR0 : Hid (progsP (n - 0) [] S1 = R ∨ False) := Lib.hid (.inl hR)
    have hn6 : n ≤ 64 := by omega
    clear hn hR
    go_enter Tryz.func90, Tryz.ntmps90
    go_wp2_with (go_at_call 131; (with_reducible refine hcnt.mono ?_); clear hcnt; rintro e w1 ⟨rfl, hrd1⟩)
    have HRD1 := Lib.hid hrd1
    clear hrd1
    go_loopw [5, 6, 7] (fun c v t wr => ∃ (k y : Nat) (acc : List (List Deed)) (S : RS), c = .int .i64 y ∧ k ≤ n ∧ t = .int .u64 (k : Int) ∧ acc.length = k ∧ Hid ((y = 0 ∧ progsP (n - k) acc S = R) ∨ (y ≠ 0 ∧ R = (S, acc, y))) ∧ Hid (OPP 45 109 wr w.heap.size v acc) ∧ Hid (RdOut w wr r S)) (fun _ _ t _ => n - (intOf t).toNat)
    case atStart => exact ⟨0, 0, [], S1, rfl, by omega, rfl, rfl, Lib.hid (.inl ⟨rfl, HR0.out.resolve_right id⟩), Lib.hid (OPP.nil _ _), HRD1⟩
    case round =>
      obtain ⟨k, y, acc, S, rfl, hk, rfl, hal, hX, hO, hrd⟩ := hrel
      clear HR0 HRD1
      by_cases hy : y = 0
      · subst hy
        have hx := (hX.out.resolve_right (fun h => h.1 rfl)).2
        by_cases hlt : k < n
        · rw [show n - k = n - (k + 1) + 1 by omega] at hx
          have hg := PGet_any r S wr hrd.out.1
          have hst := progsP_stop hx
          have hsp := progsP_step hx
          have hXN : ((getP S).2.2 = 0 ∧ progsP (n - (k + 1)) (acc ++ [(getP S).2.1]) (getP S).1 = R) ∨ ((getP S).2.2 ≠ 0 ∧ R = ((getP S).1, acc ++ [(getP S).2.1], (getP S).2.2)) := by
            by_cases h0 : (getP S).2.2 = 0
            · exact .inl ⟨h0, hsp h0⟩
            · exact .inr ⟨h0, hst h0⟩
          generalize getP S = q at hg hXN
          obtain ⟨S2, p, y⟩ := q
          simp only at hXN
          have HX := Lib.hid hXN
          have hOw := hO.out
          have hrw := hrd.out
          clear hst hsp hx hX hXN hO hrd
          obtain ⟨us0, _, ho0, _⟩ := id hOw
          obtain ⟨vp, vc, rfl⟩ := own_shape9 ho0
          clear ho0
          unfold GetAt at hg
          simp only at hg
          have hrB := hrl
          have hszw := hrw.2.size
          go_wp2_with (first
            | (go_at_call 132; (with_reducible refine hg.mono ?_); clear hg; rintro e w2 ⟨⟨u, rfl, hu⟩, hrd2⟩; have hF2 := hrw.2.trans hrd2.2; obtain ⟨us, hul, ho2, hmk⟩ := hOw.outer2 (by decide) hrd2.2 hrB; have HMK := Lib.hid hmk; clear hmk; rw [hal] at ho2; obtain ⟨up, uc, rfl⟩ := own_shape9 hu)
            | (at_builtin; refine wpList_append_lits rfl _ _ 24 rfl w.heap.size 45 i0 (.slice none 0 0) 24 Tryz.underlying24 hi hz0 hz1 hz2 rfl (by decide) ho2 rfl _ rfl rfl rfl (by omega) hF2.size ?_; intro v' w5 ho5 hb5 _ hf5))
          have hrd5 : RdOut w w5 r S2 := ⟨hrd2.1.under hb5 hrl, hF2.then_ hf5 (fun x hx => .inr (ho2.lt x hx).1)⟩
          have hu5 := hf5.own hu (own_apart hu ho2 (by decide))
          have hO5 := HMK.out v' _ p w5 (by rw [hal]; exact ho5) (by rw [hal]; exact hf5) (own_mono hu5 hszw) (fun j hj => (hu.lt j hj).1)
          go_roundw
          case rel => exact ⟨k + 1, y, acc ++ [p], S2, rfl, by omega, by go_num, by simp [hal], HX, Lib.hid hO5, Lib.hid hrd5⟩
          case measure => simp [intOf]; omega
        · obtain rfl : k = n := by omega
          rw [Nat.sub_self, progsP] at hx
          have HX := Lib.hid hx
          obtain ⟨us0, _, ho0, _⟩ := id hO.out
          obtain ⟨vp, vc, rfl⟩ := own_shape9 ho0
          clear hX hx ho0
          go_wp2
          go_ret2
          rw [← HX.out]
          exact ⟨⟨_, rfl, hO.out⟩, hrd.out⟩
      · have ty : ((y : Int) == 0) = false := by rw [beq_eq_false_iff_ne]; omega
        have hx := (hX.out.resolve_left (fun h => hy h.1)).2
        have HX := Lib.hid hx
        obtain ⟨us0, _, ho0, _⟩ := id hO.out
        obtain ⟨vp, vc, rfl⟩ := own_shape9 ho0
        clear hX hx ho0 hy
        by_cases hlt : k < n
        all_goals
          go_wp2
          go_ret2
          rw [HX.out]
          exact ⟨⟨_, rfl, hO.out⟩, hrd.out⟩

theorem OSS.push2 {w w2 : World} {B r : Nat} {v : Value} {xss : List (List Nat)} (h : OSS w B v xss) (h2 : Foot (fun k => k = r) w w2) (hr : r < B) : ∃ us : List Value, us.length = xss.length ∧ w2.ownsRow B 54 1 v xss.length us ∧
    ∀ (v' u' : Value) (xs : List Nat) (w1 : World), w1.ownsRow B 54 1 v' (xss.length + 1) (us ++ [u']) → Foot (fun k => v.ownBlock = some k) w2 w1 → w1.ownsRow B 22 1 u' xs.length (xs.map uV) → OSS w1 B v' (xss ++ [xs]) := by
  obtain ⟨us, hl, ho, he⟩ := h
  have ho2 := h2.own ho (fun k hk e => by have := (ho.lt k hk).1; omega)
  refine ⟨us, hl, ho2, fun v' u' xs w1 ho1 hf hu1 => OSS.push hl ho1 (fun k u ys hu hy => ?_) hu1⟩
  have hin := he k u ys hu hy
  have hin2 := h2.own hin (fun k hk e => by have := (hin.lt k hk).1; omega)
  exact hf.own hin2 (own_apart hin2 ho2 (by decide))
theorem startsP_step {n : Nat} {acc : List (List Nat)} {st : RS} {R : RS × List (List Nat)} (h : startsP (n + 1) acc st = R) : startsP n (acc ++ [(rdNums 3 st).2]) (rdNums 3 st).1 = R := by
  rw [← h, startsP]

set_option maxRecDepth 100000 in
set_option maxHeartbeats 4000000 in
theorem GetStarts_any (r : Nat) (st : RS) (w : World) (h : RdAt w r st) :
    Calls Tryz.prog 91 #[.pointer (some ⟨r, 0, none⟩)] w fun e w' => (∃ v, e = .returned (.tuple #[v, .int .i64 ((getSsY st).2.2 : Int)]) ∧ OSS w' w.heap.size v (getSsY st).2.1) ∧ RdOut w w' r (getSsY st).1 := by
  obtain ⟨i0, hi, hz0, hz1, hz2⟩ := info_parts (show (Tryz.prog.info? 54).map (fun i => (i.zero, i.size, i.bytes)) = some (some (.slice none 0 0), 1, 24) by kernel_rfl)
  have hrl := h.lt
  have hcnt := GetCount_any r st w h
  obtain ⟨R, hR⟩ : ∃ R, getSsY st = R := ⟨_, rfl⟩
  rw [hR]
  unfold getSsY at hR
  generalize rdNum st = q at hcnt hR
  obtain ⟨S1, n⟩ := q
  simp only at hcnt hR
  clear h
  by_cases hn : 64 < n
  · rw [if_pos hn] at hR
    rw [if_pos hn, if_pos hn] at hcnt
    subst hR
    clear hn
    go_enter Tryz.func91, Tryz.ntmps91
    go_wp2_with (go_at_call 131; (with_reducible refine hcnt.mono ?_); clear hcnt; rintro e w1 ⟨rfl, hrd1⟩)
    have HRD1 := Lib.hid hrd1
    clear hrd1
    go_loopw [6, 13] (fun v t wr => v = .slice none 0 0 ∧ t = .int .u64 0 ∧ wr = w1) (fun _ _ _ => 0)
    case atStart => exact ⟨rfl, rfl, rfl⟩
    case round =>
      obtain ⟨rfl, rfl, rfl⟩ := hrel
      go_wp2
      go_ret2
      exact ⟨⟨_, rfl, OSS.nil _ _⟩, HRD1.out⟩
  · rw [if_neg hn] at hR
    rw [if_neg hn, if_neg hn] at hcnt
    obtain ⟨Q, hQ⟩ : ∃ Q, startsP n [] S1 = Q := ⟨_, rfl⟩
    rw [hQ] at hR
    subst hR
    have HR0 : Hid (startsP (n - 0) [] S1 = Q) := Lib.hid hQ
    have hn6 : n ≤ 64 := by omega
    clear hn hQ
    go_enter Tryz.func91, Tryz.ntmps91
    go_wp2_with (go_at_call 131; (with_reducible refine hcnt.mono ?_); clear hcnt; rintro e w1 ⟨rfl, hrd1⟩)
    have HRD1 := Lib.hid hrd1
    clear hrd1
    go_loopw [6, 13] (fun v t wr => ∃ (k : Nat) (acc : List (List Nat)) (S : RS), k ≤ n ∧ t = .int .u64 (k : Int) ∧ acc.length = k ∧ Hid (startsP (n - k) acc S = Q) ∧ Hid (OSS wr w.heap.size v acc) ∧ Hid (RdOut w wr r S)) (fun _ t _ => n - (intOf t).toNat)
    case atStart => exact ⟨0, [], S1, by omega, rfl, rfl, HR0, Lib.hid (OSS.nil _ _), HRD1⟩
    case round =>
      obtain ⟨k, acc, S, hk, rfl, hal, hX, hO, hrd⟩ := hrel
      clear HR0 HRD1
      by_cases hlt : k < n
      · have hx := hX.out
        rw [show n - k = n - (k + 1) + 1 by omega] at hx
        have HX := Lib.hid (startsP_step hx)
        have hg := GetY_at 3 3 r rfl (by decide) S wr hrd.out.1
        have hl3 := rdNums_len 3 S
        generalize rdNums 3 S = q at hg HX hl3
        obtain ⟨S2, xs⟩ := q
        simp only at hg hl3
        have hOw := hO.out
        have hrw := hrd.out
        have HL3 := Lib.hid hl3
        clear hx hX hO hrd hl3
        obtain ⟨us0, _, ho0, _⟩ := id hOw
        obtain ⟨vp, vc, rfl⟩ := own_shape9 ho0
        clear ho0
        have hrB := hrl
        have hszw := hrw.2.size
        go_wp2_with (first
          | (go_at_call 89; (with_reducible refine hg.mono ?_); clear hg; rintro e w2 ⟨⟨u, rfl, hu⟩, hrd2⟩; have hF2 := hrw.2.trans hrd2.2; obtain ⟨us, hul, ho2, hmk⟩ := hOw.push2 hrd2.2 hrB; have HMK := Lib.hid hmk; clear hmk; rw [hal] at ho2; obtain ⟨up, uc, rfl⟩ := own_shape9 hu)
          | (at_builtin; refine wpList_append_lits rfl _ _ 69 rfl w.heap.size 54 i0 (.slice none 0 0) 24 Tryz.underlying69 hi hz0 hz1 hz2 rfl (by decide) ho2 rfl _ rfl rfl rfl (by omega) hF2.size ?_; intro v' w5 ho5 hb5 _ hf5))
        have hrd5 : RdOut w w5 r S2 := ⟨hrd2.1.under hb5 hrl, hF2.then_ hf5 (fun x hx => .inr (ho2.lt x hx).1)⟩
        have hu5 := hf5.own hu (own_apart hu ho2 (by decide))
        have hO5 := HMK.out v' _ xs w5 (by rw [hal]; exact ho5) (by rw [hal]; exact hf5) (by rw [HL3.out]; exact own_mono hu5 hszw)
        go_roundw
        case rel => exact ⟨k + 1, acc ++ [xs], S2, by omega, by go_num, by simp [hal], HX, Lib.hid hO5, Lib.hid hrd5⟩
        case measure => simp [intOf]; omega
      · obtain rfl : k = n := by omega
        have hx := hX.out
        rw [Nat.sub_self, startsP] at hx
        have HX := Lib.hid hx
        obtain ⟨us0, _, ho0, _⟩ := id hO.out
        obtain ⟨vp, vc, rfl⟩ := own_shape9 ho0
        clear hX hx ho0
        go_wp2
        go_ret2
        rw [← HX.out]
        exact ⟨⟨_, rfl, hO.out⟩, hrd.out⟩
end Go.Proofs.YtbdimfcdpkldpaaGreatDoor

namespace Go.Proofs.YtbdimfcdpkldpaaGreatDoor
open Go.RowKit

theorem max_natI (a b : Nat) : max (a : Int) (b : Int) = ((max a b : Nat) : Int) := by omega
set_option maxHeartbeats 2000000 in
theorem BigL_any (a b c : Nat) (v : Value) (G : Nat → Prop) (w : World) (h : RV w G v 3 1 ([a, b, c].map uV)) :
    Calls Tryz.prog 95 #[v] w fun e w' => e = .returned (.bool (bigL [a, b, c])) ∧ Below w.heap.size w w' := by
  obtain ⟨p, cc, rfl, hcc, _⟩ := id h
  obtain ⟨g, off, rfl, _, _, h0⟩ := h.at1 0 (uV a) rfl
  obtain ⟨g', off', e, _, _, h1⟩ := h.at1 1 (uV b) rfl
  cases e
  unfold uV at h0 h1
  rw [Nat.add_zero] at h0
  obtain ⟨r, hr⟩ : ∃ r, bigL [a, b, c] = r := ⟨_, rfl⟩
  rw [hr]
  have ht : decide (max (a : Int) (b : Int) > 2147483647) = r := by
    rw [← hr, max_natI]
    unfold bigL
    simp only [List.getD_cons_zero, List.getD_cons_succ]
    rw [Bool.eq_iff_iff]
    simp only [decide_eq_true_eq]
    omega
  have HT := Lib.hid ht
  clear h ht hr
  go_enter Tryz.func95, Tryz.ntmps95
  go_wp2
  go_region
  go_wp2
  go_ret
  exact ⟨ret_b9 HT.out, (Below.refl _ w).drew⟩

set_option maxRecDepth 100000 in
set_option maxHeartbeats 2000000 in
theorem IndexBig_any (sp : Option Addr) (sc : Nat) (xss : List (List Nat)) (h3 : ∀ l ∈ xss, l.length = 3) (G : Nat → Prop) (w : World) (h : RXX w G (.slice sp xss.length sc) xss) (hl : xss.length ≤ 64) :
    Calls Tryz.prog 133 #[.slice sp xss.length sc, .func (.func 95) #[] #[]] w fun e w' => (∃ r : Int, e = .returned (.int .i64 r) ∧ decide (0 ≤ r) = xss.any bigL) ∧ Below w.heap.size w w' := by
  have H := Lib.hid h
  have H3 := Lib.hid h3
  clear h h3
  go_enter Tryz.func133, Tryz.ntmps133
  go_wp2
  go_loopw [8] (fun t wr => ∃ k : Nat, k ≤ xss.length ∧ t = .int .i64 k ∧ Hid ((xss.take k).any bigL = false) ∧ Hid (RXX wr G (.slice sp xss.length sc) xss) ∧ Below w.heap.size w wr) (fun t _ => xss.length - (intOf t).toNat)
  case atStart => exact ⟨0, by omega, rfl, Lib.hid (by simp), H, Below.refl _ _⟩
  case round =>
    obtain ⟨k, hk, rfl, hg, hD, hb⟩ := hrel
    clear H
    by_cases hlt : k < xss.length
    · obtain ⟨xs, hx⟩ : ∃ xs, xss[k]? = some xs := ⟨_, List.getElem?_eq_getElem hlt⟩
      obtain ⟨b, off, q, cq, rfl, hcell, hrv⟩ := hD.out.at hx
      have hxl := H3.out xs (List.mem_of_getElem? hx)
      obtain ⟨x0, x1, x2, rfl⟩ : ∃ x0 x1 x2, xs = [x0, x1, x2] := by
        match xs, hxl with
        | [x0, x1, x2], _ => exact ⟨x0, x1, x2, rfl⟩
      have hbg := BigL_any x0 x1 x2 (.slice q 3 cq) G wr hrv
      have htk : (xss.take (k + 1)).any bigL = bigL [x0, x1, x2] := by
        rw [List.take_add_one, hx, List.any_append, hg.out]
        simp
      have hsub : bigL [x0, x1, x2] = true → xss.any bigL = true := fun e => List.any_eq_true.2 ⟨_, List.mem_of_getElem? hx, e⟩
      clear hx hrv hxl
      cases hB : bigL [x0, x1, x2] with
      | false =>
        rw [hB] at htk hbg
        have HE := Lib.hid htk
        clear htk hsub hB
        go_wp2_with (go_at_call 95; (with_reducible refine hbg.mono ?_); clear hbg; rintro e w2 ⟨rfl, hb2⟩)
        go_roundw
        case rel => exact ⟨k + 1, by omega, by go_num, HE, Lib.hid (hD.out.below hb2 (fun _ hk _ => hk)), below_pre hb hb2⟩
        case measure => simp [intOf]; omega
      | true =>
        rw [hB] at hbg
        have HE := Lib.hid (hsub hB)
        clear htk hsub hB
        go_wp2_with (go_at_call 95; (with_reducible refine hbg.mono ?_); clear hbg; rintro e w2 ⟨rfl, hb2⟩)
        go_ret
        exact ⟨⟨_, rfl, by rw [HE.out]; simp⟩, below_pre hb hb2⟩
    · obtain rfl : k = xss.length := by omega
      have hgp : xss.any bigL = false := by have := hg.out; rwa [List.take_length] at this
      have HGP := Lib.hid hgp
      clear hgp
      go_wp2
      go_ret
      exact ⟨⟨_, rfl, by rw [HGP.out]; rfl⟩, hb⟩

theorem TooGreat_any (hv pv : Value) (_hp1 : hv.oneCell' = true) (_hp2 : pv.oneCell' = true) (sp : Option Addr) (sc : Nat) (xss : List (List Nat)) (h3 : ∀ l ∈ xss, l.length = 3) (G : Nat → Prop) (w : World) (h : RXX w G (.slice sp xss.length sc) xss) (hl : xss.length ≤ 64) :
    Calls Tryz.prog 49 #[.agg #[hv, pv, .slice sp xss.length sc]] w fun e w' => e = .returned (.bool (xss.any bigL)) ∧ Below w.heap.size w w' := by
  have hb0 := below_alloc1 w (.cells #[hv, pv, .slice sp xss.length sc] 71)
  have hB0 := Blk.new w 71 #[hv, pv, .slice sp xss.length sc]
  have c2 : (w.alloc (.cells #[hv, pv, .slice sp xss.length sc] 71)).cell? ⟨w.heap.size, 2, none⟩ = some (.slice sp xss.length sc) := hB0.cell 2
  have hR0 := h.below hb0 (fun _ hk _ => hk)
  have hix := fun W (hW : RXX W G (.slice sp xss.length sc) xss) => IndexBig_any sp sc xss h3 G W hW hl
  generalize xss.any bigL = B at *
  have hcf : ∀ W, RXX W G (.slice sp xss.length sc) xss → Calls Tryz.prog 94 #[.slice sp xss.length sc, .func (.func 95) #[] #[]] W fun e w' => e = .returned (.bool B) ∧ Below W.heap.size W w' := fun W hW => by
    have hi := hix W hW
    clear hR0 hb0 hB0 c2 h hW h3 hix
    go_enter Tryz.func94, Tryz.ntmps94
    go_wp2_with (go_at_call 133; (with_reducible refine hi.mono ?_); clear hi; rintro e w2 ⟨⟨r, rfl, hr⟩, hb2⟩; have HR := Lib.hid hr; clear hr)
    go_ret
    exact ⟨ret_b9 (by first | exact HR.out | simpa using HR.out), hb2⟩
  clear h3 h hix
  go_enter Tryz.func49, Tryz.ntmps49
  go_wp2_with (first
    | (refine wpList_box_agg rfl 71 _ rfl #[hv, pv, .slice sp xss.length sc] rfl ?_)
    | (go_at_call 94; (with_reducible refine (hcf _ hR0).mono ?_); clear hcf; rintro e w2 ⟨rfl, hb2⟩))
  go_ret
  exact ⟨rfl, below_pre hb0 hb2⟩
end Go.Proofs.YtbdimfcdpkldpaaGreatDoor

namespace Go.Proofs.YtbdimfcdpkldpaaGreatDoor
open Go.RowKit
open Wire (RS rdNum RdAt RdOut bV)

theorem zeroDr : ∀ w, (zeroValue 71).run Tryz.prog w = .ok (.agg #[.slice none 0 0, .slice none 0 0, .slice none 0 0]) w := (zero_of_info (n := 3) (by kernel_rfl)).1
theorem sizeDr (a b c : Value) : (Tryz.prog.info? 71).map (·.size) = some (#[a, b, c] : Array Value).size := by kernel_rfl
theorem oneDr (p q s : Option Addr) (n m k c d e : Nat) : (#[.slice p n c, .slice q m d, .slice s k e] : Array Value).all (·.oneCell') = true := by simp [Value.oneCell']

set_option maxRecDepth 100000 in
set_option maxHeartbeats 4000000 in
theorem GetDraft_any (r : Nat) (st : RS) (w : World) (h : RdAt w r st) :
    Calls Tryz.prog 47 #[.pointer (some ⟨r, 0, none⟩)] w fun e w' => (∃ hv pv sv, e = .returned (.tuple #[.agg #[hv, pv, sv], .int .i64 ((draftY st).2.2 : Int)]) ∧ w'.ownsRow w.heap.size 22 1 hv 7 ((draftY st).2.1.head.map uV) ∧ OPP 45 109 w' w.heap.size pv (draftY st).2.1.progs ∧ OSS w' w.heap.size sv (draftY st).2.1.starts) ∧ RdOut w w' r (draftY st).1 := by
  have hrl := h.lt
  have hg := fun W hW => GetY_at 7 7 r rfl (by decide) st W hW
  have hp0 := fun W hW => GetProgs_any r (rdNums 7 st).1 W hW
  have hs := fun W hW => GetStarts_any r (getPsY (rdNums 7 st).1).1 W hW
  obtain ⟨R, hR⟩ : ∃ R, draftY st = R := ⟨_, rfl⟩
  rw [hR]
  unfold draftY at hR
  simp only at hR
  generalize rdNums 7 st = q at hg hp0 hs hR
  obtain ⟨S1, xs⟩ := q
  simp only at hg hp0 hs hR
  generalize getPsY S1 = q at hp0 hs hR
  obtain ⟨S2, ps, y⟩ := q
  simp only at hp0 hs hR
  have hz0 := Blk.new w 71 #[.slice none 0 0, .slice none 0 0, .slice none 0 0]
  have hrd0 := h.below (below_alloc1 w (.cells #[.slice none 0 0, .slice none 0 0, .slice none 0 0] 71)) (Nat.le_refl _)
  have hf0 := (Foot.refl (fun k => k = r) w).alloc (.cells #[.slice none 0 0, .slice none 0 0, .slice none 0 0] 71)
  clear h
  by_cases hy : y = 0
  · subst hy
    rw [if_pos rfl] at hR
    generalize getSsY S2 = q at hs hR
    obtain ⟨S3, ss, y3⟩ := q
    simp only at hs hR
    subst hR
    go_enter Tryz.func47, Tryz.ntmps47
    go_wp2_with (first
      | (refine wpList_alloc_agg rfl 71 rfl #[.slice none 0 0, .slice none 0 0, .slice none 0 0] zeroDr ?_)
      | (go_at_call 89; (with_reducible refine (hg _ hrd0).mono ?_); clear hg; rintro e w1 ⟨⟨hv, rfl, hx1⟩, hrd1⟩; obtain ⟨hp, hc, rfl⟩ := own_shape9 hx1; have hx1 := own_mono hx1 hf0.size; have hf1 := hf0.trans hrd1.2; have hz1 := hz0.foot hrd1.2 (by omega); have hs1 : w.heap.size < w1.heap.size := hz1.lt; have ha2 := below_alloc1 w1 (.cells #[.slice hp 7 hc, .slice none 0 0, .slice none 0 0] 71); have hk2 := Blk.new w1 71 #[.slice hp 7 hc, .slice none 0 0, .slice none 0 0]; have hz2 := hz1.below ha2 hz1.lt; have hx2 := hx1.alloc (.cells #[.slice hp 7 hc, .slice none 0 0, .slice none 0 0] 71); have hrd2 := hrd1.1.below ha2 (Nat.le_refl _); have hf2 := hf1.alloc (.cells #[.slice hp 7 hc, .slice none 0 0, .slice none 0 0] 71))
      | (refine wpList_store_row rfl 71 _ _ rfl w1.heap.size #[.slice hp 7 hc, .slice none 0 0, .slice none 0 0] rfl rfl 71 _ (heap_alloc_new w1 _) (sizeDr _ _ _) rfl (oneDr _ _ _ _ _ _ _ _ _) ?_; rw [World.setRow_alloc_new])
      | (go_at_call 90; (with_reducible refine (hp0 _ hrd2).mono ?_); clear hp0; rintro e w3 ⟨⟨pv, rfl, hO3⟩, hrd3⟩; obtain ⟨pp, pc, rfl⟩ : ∃ p c, pv = .slice p ps.length c := (by obtain ⟨us, _, ho, _⟩ := hO3; exact own_shape9 ho); have hk3 := hk2.foot hrd3.2 (by omega); have hz3 := hz2.foot hrd3.2 (by omega); have hx3 := hrd3.2.own hx2 (fun j hj e => by have := (hx2.lt j hj).1; omega); have hO3 := hO3.mono (B' := w.heap.size) hf2.size; have hf3 := hf2.trans hrd3.2; have hfr3 := hk3.frozen 1; have hc3 : w3.cell? ⟨w1.heap.size, 1, none⟩ = some (.slice none 0 0) := hk3.cell 1; have hfs4 := foot_cell w3 w1.heap.size 1 (.slice pp ps.length pc); have hk4 : Blk (w3.setCell ⟨w1.heap.size, 1, none⟩ (.slice pp ps.length pc)) w1.heap.size 71 #[.slice hp 7 hc, .slice pp ps.length pc, .slice none 0 0] := hk3.set 1 _; have hz4 := hz3.foot hfs4 (by omega); have hx4 := own_far hx3 hk3 (by decide) hfs4; have hO4 := hO3.far hk3 (by decide) (by decide) hfs4; have hrd4 := hrd3.1.under (hfs4.below (B := w.heap.size) hf3.size (fun k hk => by omega)) hrl; have hf4 := hf3.then_ hfs4 (fun k hk => .inr (by omega)))
      | (go_at_call 91; (with_reducible refine (hs _ hrd4).mono ?_); clear hs; rintro e w5 ⟨⟨sv, rfl, hS5⟩, hrd5⟩; obtain ⟨sp, sc, rfl⟩ : ∃ p c, sv = .slice p ss.length c := (by obtain ⟨us, _, ho, _⟩ := hS5; exact own_shape9 ho); have hk5 := hk4.foot hrd5.2 (by omega); have hz5 := hz4.foot hrd5.2 (by omega); have hx5 := hrd5.2.own hx4 (fun j hj e => by have := (hx4.lt j hj).1; omega); have hO5 := hO4.foot hrd5.2 (fun j hj _ e => by omega); have hf5 := hf4.trans hrd5.2; have hS5 := hS5.mono (B' := w.heap.size) hf4.size; have hfr5 := hk5.frozen 2; have hc5 : w5.cell? ⟨w1.heap.size, 2, none⟩ = some (.slice none 0 0) := hk5.cell 2; have hfs6 := foot_cell w5 w1.heap.size 2 (.slice sp ss.length sc); have hk6 : Blk (w5.setCell ⟨w1.heap.size, 2, none⟩ (.slice sp ss.length sc)) w1.heap.size 71 #[.slice hp 7 hc, .slice pp ps.length pc, .slice sp ss.length sc] := hk5.set 2 _; have hz6 := hz5.foot hfs6 (by omega); have hx6 := own_far hx5 hk5 (by decide) hfs6; have hO6 := hO5.far hk5 (by decide) (by decide) hfs6; have hS6 := hS5.far hk5 (by decide) (by decide) hfs6; have hrd6 := hrd5.1.under (hfs6.below (B := w.heap.size) hf5.size (fun k hk => by omega)) hrl; have hf6 := hf5.then_ hfs6 (fun k hk => .inr (by omega)))
      | (refine wpList_load_row rfl 71 _ rfl w1.heap.size rfl 71 _ (0, 0) _ hk6 Tryz.underlying71 rfl (sizeDr _ _ _) ?_)
      | (refine wpList_store_row rfl 71 _ _ rfl w.heap.size #[.slice hp 7 hc, .slice pp ps.length pc, .slice sp ss.length sc] rfl rfl 71 _ hz6 (sizeDr _ _ _) rfl (oneDr _ _ _ _ _ _ _ _ _) ?_))
    refine bodyPost_ret (results_row_tmp rfl _ _ w.heap.size 71 #[.slice hp 7 hc, .slice pp ps.length pc, .slice sp ss.length sc] (0, 0) _ rfl (hz6.row _) Tryz.underlying71 rfl (sizeDr _ _ _)) rfl ?_
    have hfs7 := foot_setRow (w5.setCell ⟨w1.heap.size, 2, none⟩ (.slice sp ss.length sc)) w.heap.size #[.slice hp 7 hc, .slice pp ps.length pc, .slice sp ss.length sc]
    exact ⟨⟨_, _, _, rfl, own_far hx6 hz6 (by decide) hfs7, hO6.far hz6 (by decide) (by decide) hfs7, hS6.far hz6 (by decide) (by decide) hfs7⟩, hrd6.under (hfs7.below (B := w.heap.size) hf6.size (fun k hk => by omega)) hrl, hf6.then_ hfs7 (fun k hk => .inr (by omega))⟩
  · rw [if_neg hy] at hR
    subst hR
    have ty : ((y : Int) == 0) = false := by rw [beq_eq_false_iff_ne]; omega
    clear hs hy
    go_enter Tryz.func47, Tryz.ntmps47
    go_wp2_with (first
      | (refine wpList_alloc_agg rfl 71 rfl #[.slice none 0 0, .slice none 0 0, .slice none 0 0] zeroDr ?_)
      | (go_at_call 89; (with_reducible refine (hg _ hrd0).mono ?_); clear hg; rintro e w1 ⟨⟨hv, rfl, hx1⟩, hrd1⟩; obtain ⟨hp, hc, rfl⟩ := own_shape9 hx1; have hx1 := own_mono hx1 hf0.size; have hf1 := hf0.trans hrd1.2; have hz1 := hz0.foot hrd1.2 (by omega); have hs1 : w.heap.size < w1.heap.size := hz1.lt; have ha2 := below_alloc1 w1 (.cells #[.slice hp 7 hc, .slice none 0 0, .slice none 0 0] 71); have hk2 := Blk.new w1 71 #[.slice hp 7 hc, .slice none 0 0, .slice none 0 0]; have hz2 := hz1.below ha2 hz1.lt; have hx2 := hx1.alloc (.cells #[.slice hp 7 hc, .slice none 0 0, .slice none 0 0] 71); have hrd2 := hrd1.1.below ha2 (Nat.le_refl _); have hf2 := hf1.alloc (.cells #[.slice hp 7 hc, .slice none 0 0, .slice none 0 0] 71))
      | (refine wpList_store_row rfl 71 _ _ rfl w1.heap.size #[.slice hp 7 hc, .slice none 0 0, .slice none 0 0] rfl rfl 71 _ (heap_alloc_new w1 _) (sizeDr _ _ _) rfl (oneDr _ _ _ _ _ _ _ _ _) ?_; rw [World.setRow_alloc_new])
      | (go_at_call 90; (with_reducible refine (hp0 _ hrd2).mono ?_); clear hp0; rintro e w3 ⟨⟨pv, rfl, hO3⟩, hrd3⟩; obtain ⟨pp, pc, rfl⟩ : ∃ p c, pv = .slice p ps.length c := (by obtain ⟨us, _, ho, _⟩ := hO3; exact own_shape9 ho); have hk3 := hk2.foot hrd3.2 (by omega); have hz3 := hz2.foot hrd3.2 (by omega); have hx3 := hrd3.2.own hx2 (fun j hj e => by have := (hx2.lt j hj).1; omega); have hO3 := hO3.mono (B' := w.heap.size) hf2.size; have hf3 := hf2.trans hrd3.2; have hfr3 := hk3.frozen 1; have hc3 : w3.cell? ⟨w1.heap.size, 1, none⟩ = some (.slice none 0 0) := hk3.cell 1; have hfs4 := foot_cell w3 w1.heap.size 1 (.slice pp ps.length pc); have hk4 : Blk (w3.setCell ⟨w1.heap.size, 1, none⟩ (.slice pp ps.length pc)) w1.heap.size 71 #[.slice hp 7 hc, .slice pp ps.length pc, .slice none 0 0] := hk3.set 1 _; have hz4 := hz3.foot hfs4 (by omega); have hx4 := own_far hx3 hk3 (by decide) hfs4; have hO4 := hO3.far hk3 (by decide) (by decide) hfs4; have hrd4 := hrd3.1.under (hfs4.below (B := w.heap.size) hf3.size (fun k hk => by omega)) hrl; have hf4 := hf3.then_ hfs4 (fun k hk => .inr (by omega)))
      | (refine wpList_load_row rfl 71 _ rfl w1.heap.size rfl 71 _ (0, 0) _ hk4 Tryz.underlying71 rfl (sizeDr _ _ _) ?_)
      | (refine wpList_store_row rfl 71 _ _ rfl w.heap.size #[.slice hp 7 hc, .slice pp ps.length pc, .slice none 0 0] rfl rfl 71 _ hz4 (sizeDr _ _ _) rfl (oneDr _ _ _ _ _ _ _ _ _) ?_))
    refine bodyPost_ret (results_row_tmp rfl _ _ w.heap.size 71 #[.slice hp 7 hc, .slice pp ps.length pc, .slice none 0 0] (0, 0) _ rfl (hz4.row _) Tryz.underlying71 rfl (sizeDr _ _ _)) rfl ?_
    have hfs7 := foot_setRow (w3.setCell ⟨w1.heap.size, 1, none⟩ (.slice pp ps.length pc)) w.heap.size #[.slice hp 7 hc, .slice pp ps.length pc, .slice none 0 0]
    exact ⟨⟨_, _, _, rfl, own_far hx4 hz4 (by decide) hfs7, hO4.far hz4 (by decide) (by decide) hfs7, OSS.nil _ _⟩, hrd4.under (hfs7.below (B := w.heap.size) hf4.size (fun k hk => by omega)) hrl, hf4.then_ hfs7 (fun k hk => .inr (by omega))⟩
end Go.Proofs.YtbdimfcdpkldpaaGreatDoor

namespace Go.Proofs.YtbdimfcdpkldpaaGreatDoor
open Go.RowKit
open Wire (RS rdNum RdAt RdOut bV)

theorem done_eq9 (st : RS) : doneR st = Wire.rdDone st := by
  cases st with
  | ok l => cases l <;> rfl
  | err e => rfl

theorem RXX.mono9 {w : World} {G G' : Nat → Prop} {v : Value} {xss : List (List Nat)} (h : RXX w G v xss) (hG : ∀ k, G k → G' k) : RXX w G' v xss := by
  obtain ⟨us, hl, hr, he⟩ := h
  exact ⟨us, hl, RV.mono hr (fun k _ hk => hG k hk), fun k u xs hu hx => RV.mono (he k u xs hu hx) (fun k _ hk => hG k hk)⟩
/-- What Decode answers: two results, the duty in memory that was not there. -/
def Told2 (w' : World) (B : Nat) (e : Ending) (R : Dut × Nat) : Prop := ∃ vp vs, e = .returned (.tuple #[.agg (R.1.cells vp vs), .int .i64 (R.2 : Int)]) ∧ DV w' (fun k => B ≤ k) vp vs R.1

set_option maxRecDepth 100000 in
set_option maxHeartbeats 8000000 in
theorem DecodeY_any (x : Value) (l : List UInt8) (hl : l.length ≤ 250000) (G : Nat → Prop) (w : World) (hr : RV w G x l.length 1 (l.map bV)) :
    Calls Tryz.prog 16 #[x] w fun e w' => Told2 w' (w.heap.size + 1) e (decY l) ∧ Below w.heap.size w w' := by
  have hz0 := Blk.new w 27 (zeroY.cells (.slice none 0 0) (.slice none 0 0))
  have hb0 := below_alloc1 w (.cells (zeroY.cells (.slice none 0 0) (.slice none 0 0)) 27)
  have hread := Wire.Read_any (w.alloc (.cells (zeroY.cells (.slice none 0 0) (.slice none 0 0)) 27)) x l hl G (RV.below hr hb0 (fun _ hk _ => hk))
  obtain ⟨p, c, rfl, _⟩ := hr
  rw [← decP9_eq]
  obtain ⟨R, hR⟩ : ∃ R, decP9 l = R := ⟨_, rfl⟩
  rw [hR]
  unfold decP9 at hR
  simp only at hR
  have hgd := fun r W hW => GetDraft_any r (.ok l) W hW
  have hok := draftY_ok (st := .ok l)
  generalize draftY (.ok l) = q at hgd hok hR
  obtain ⟨S, dr, y⟩ := q
  simp only at hgd hok hR
  have HDN := Lib.hid (fun (r : Nat) (W : World) (h : RdAt W r S) => Wire.RDone_any r S W h)
  by_cases hy : y = 0
  · subst hy
    rw [if_pos rfl, done_eq9] at hR
    obtain ⟨hok, h7, h64⟩ := hok rfl
    generalize Wire.rdDone S = f at hR HDN
    by_cases hf : f = 0
    · rw [if_pos hf] at hR
      have tf : ((f : Int) != 0) = false := by rw [hf]; rfl
      have h3 : ∀ l ∈ dr.starts, l.length = 3 := fun l hl => (hok.starts l hl).1
      have htg := fun hp hc pp pc sp sc W (hW : RXX W (fun k => w.heap.size + 1 ≤ k ∧ k < W.heap.size) (.slice sp dr.starts.length sc) dr.starts) => TooGreat_any (.slice hp 7 hc) (.slice pp dr.progs.length pc) rfl rfl sp sc dr.starts h3 _ W hW h64
      generalize dr.starts.any bigL = B at hR htg
      clear hf
      cases B with
      | true =>
        rw [if_pos rfl] at hR
        subst hR
        clear h3
        go_enter Tryz.func16, Tryz.ntmps16
        go_wp2_with (first
          | (refine wpList_alloc_agg rfl 27 rfl (zeroY.cells (.slice none 0 0) (.slice none 0 0)) zeroYR ?_)
          | (refine wpList_alloc_agg rfl 71 rfl #[.slice none 0 0, .slice none 0 0, .slice none 0 0] zeroDr ?_)
          | (go_at_call 46; (with_reducible refine hread.mono ?_); clear hread; rintro e w1 ⟨⟨r, rfl, hr1, hrd1⟩, hb1⟩; have hz1 := hz0.below hb1 hz0.lt; have hbw1 := below_pre hb0 hb1; have hr0 : w.heap.size + 1 ≤ r := (by simpa using hr1); have hs1 : w.heap.size + 1 ≤ w1.heap.size := hz1.lt)
          | (go_at_call 47; (with_reducible refine (hgd _ _ hrd1).mono ?_); clear hgd; rintro e w2 ⟨⟨hv, pv, sv, rfl, hx2, hO2, hS2⟩, hrd2⟩; obtain ⟨hp, hc, rfl⟩ := own_shape9 hx2; obtain ⟨pp, pc, rfl⟩ : ∃ p c, pv = .slice p dr.progs.length c := (by obtain ⟨us, _, ho, _⟩ := hO2; exact own_shape9 ho); obtain ⟨sp, sc, rfl⟩ : ∃ p c, sv = .slice p dr.starts.length c := (by obtain ⟨us, _, ho, _⟩ := hS2; exact own_shape9 ho); have hz2 := hz1.foot hrd2.2 (by omega); have hbw2 : Below w.heap.size w w2 := hbw1.trans (hrd2.2.below (B := w.heap.size) (by omega) (fun k (hk : k = r) => by omega)); have ha3 := below_alloc1 w2 (.cells #[.slice hp 7 hc, .slice pp dr.progs.length pc, .slice sp dr.starts.length sc] 71); have hk3 := Blk.new w2 71 #[.slice hp 7 hc, .slice pp dr.progs.length pc, .slice sp dr.starts.length sc]; have hz3 := hz2.below ha3 hz2.lt; have hb3 := below_pre hbw2 ha3; have hrd3 := hrd2.1.below ha3 (Nat.le_refl _); have hx3 := (hx2.alloc (.cells #[.slice hp 7 hc, .slice pp dr.progs.length pc, .slice sp dr.starts.length sc] 71)); have hO3 := hO2.below ha3; have hS3 := hS2.below ha3)
          | (refine wpList_store_row rfl 71 _ _ rfl w2.heap.size #[.slice hp 7 hc, .slice pp dr.progs.length pc, .slice sp dr.starts.length sc] rfl rfl 71 _ (heap_alloc_new w2 _) (sizeDr _ _ _) rfl (oneDr _ _ _ _ _ _ _ _ _) ?_; rw [World.setRow_alloc_new])
          | (go_at_call 48; (with_reducible refine (HDN.out _ _ hrd3).mono ?_); rintro e w4 ⟨rfl, rfl⟩)
          | (refine wpList_load_row rfl 71 _ rfl w2.heap.size rfl 71 _ (0, 0) _ hk3 Tryz.underlying71 rfl (sizeDr _ _ _) ?_)
          | (go_at_call 49; (with_reducible refine (htg _ _ _ _ _ _ _ (hS3.low.mono9 (fun k hk => ⟨by omega, hk.2⟩))).mono ?_); clear htg; rintro e w4 ⟨rfl, hb34⟩; have hz4 := hz3.below hb34 hz3.lt; have hb4 := below_pre hb3 hb34; have hk4 := hk3.below hb34 hk3.lt; have hx4 := RV.mono (RV.of_own (ownsRow_below hx3 hb34 (Nat.le_refl _))) (fun k hk hk2 => (⟨by have := ((ownsRow_below hx3 hb34 (Nat.le_refl _)).lt k hk2).1; omega, hk⟩ : w.heap.size + 1 ≤ k ∧ k < w4.heap.size)); have hO4 := (hO3.below hb34).low.grow (G' := fun k => w.heap.size + 1 ≤ k ∧ k < w4.heap.size) (fun k hk => ⟨by omega, hk.2⟩); have hS4 := (hS3.below hb34).low.mono9 (G' := fun k => w.heap.size + 1 ≤ k ∧ k < w4.heap.size) (fun k hk => ⟨by omega, hk.2⟩))
          | (refine wpList_store_row rfl 27 _ _ rfl w.heap.size (zeroY.cells (.slice none 0 0) (.slice none 0 0)) rfl rfl 27 _ hz4 (sizeY _ _ _) rfl (oneY _ _ _ _ _ _ _) ?_))
        refine bodyPost_ret (results_row_tmp rfl _ _ w.heap.size 27 (zeroY.cells (.slice none 0 0) (.slice none 0 0)) (0, 0) _ rfl (hz4.row _) Tryz.underlying27 rfl (sizeY _ _ _)) rfl ?_
        exact ⟨⟨_, _, rfl, ⟨RPP.nil _ _, RSs.nil _ _⟩⟩, hb4.trans (foot_row _ (Nat.le_refl _))⟩
      | false =>
        rw [if_neg (by decide)] at hR
        subst hR
        have hdu := fun hv pv sv W (h1 : RV W (fun k => w.heap.size + 1 ≤ k ∧ k < W.heap.size) hv 7 1 (dr.head.map uV)) (h2 : RPP W (fun k => w.heap.size + 1 ≤ k ∧ k < W.heap.size) pv dr.progs) (h3 : RXX W (fun k => w.heap.size + 1 ≤ k ∧ k < W.heap.size) sv dr.starts) => DutyOf_any dr hok h7 (by omega) hv pv sv _ W (fun k hk => hk.2) h1 h2 h3
        generalize retD dr = RD at *
        generalize checkY (drS dr) = code at *
        clear h3 hok h7 h64
        go_enter Tryz.func16, Tryz.ntmps16
        go_wp2_with (first
          | (refine wpList_alloc_agg rfl 27 rfl (zeroY.cells (.slice none 0 0) (.slice none 0 0)) zeroYR ?_)
          | (refine wpList_alloc_agg rfl 71 rfl #[.slice none 0 0, .slice none 0 0, .slice none 0 0] zeroDr ?_)
          | (go_at_call 46; (with_reducible refine hread.mono ?_); clear hread; rintro e w1 ⟨⟨r, rfl, hr1, hrd1⟩, hb1⟩; have hz1 := hz0.below hb1 hz0.lt; have hbw1 := below_pre hb0 hb1; have hr0 : w.heap.size + 1 ≤ r := (by simpa using hr1); have hs1 : w.heap.size + 1 ≤ w1.heap.size := hz1.lt)
          | (go_at_call 47; (with_reducible refine (hgd _ _ hrd1).mono ?_); clear hgd; rintro e w2 ⟨⟨hv, pv, sv, rfl, hx2, hO2, hS2⟩, hrd2⟩; obtain ⟨hp, hc, rfl⟩ := own_shape9 hx2; obtain ⟨pp, pc, rfl⟩ : ∃ p c, pv = .slice p dr.progs.length c := (by obtain ⟨us, _, ho, _⟩ := hO2; exact own_shape9 ho); obtain ⟨sp, sc, rfl⟩ : ∃ p c, sv = .slice p dr.starts.length c := (by obtain ⟨us, _, ho, _⟩ := hS2; exact own_shape9 ho); have hz2 := hz1.foot hrd2.2 (by omega); have hbw2 : Below w.heap.size w w2 := hbw1.trans (hrd2.2.below (B := w.heap.size) (by omega) (fun k (hk : k = r) => by omega)); have ha3 := below_alloc1 w2 (.cells #[.slice hp 7 hc, .slice pp dr.progs.length pc, .slice sp dr.starts.length sc] 71); have hk3 := Blk.new w2 71 #[.slice hp 7 hc, .slice pp dr.progs.length pc, .slice sp dr.starts.length sc]; have hz3 := hz2.below ha3 hz2.lt; have hb3 := below_pre hbw2 ha3; have hrd3 := hrd2.1.below ha3 (Nat.le_refl _); have hx3 := (hx2.alloc (.cells #[.slice hp 7 hc, .slice pp dr.progs.length pc, .slice sp dr.starts.length sc] 71)); have hO3 := hO2.below ha3; have hS3 := hS2.below ha3)
          | (refine wpList_store_row rfl 71 _ _ rfl w2.heap.size #[.slice hp 7 hc, .slice pp dr.progs.length pc, .slice sp dr.starts.length sc] rfl rfl 71 _ (heap_alloc_new w2 _) (sizeDr _ _ _) rfl (oneDr _ _ _ _ _ _ _ _ _) ?_; rw [World.setRow_alloc_new])
          | (go_at_call 48; (with_reducible refine (HDN.out _ _ hrd3).mono ?_); rintro e w4 ⟨rfl, rfl⟩)
          | (refine wpList_load_row rfl 71 _ rfl w2.heap.size rfl 71 _ (0, 0) _ hk3 Tryz.underlying71 rfl (sizeDr _ _ _) ?_)
          | (go_at_call 49; (with_reducible refine (htg _ _ _ _ _ _ _ (hS3.low.mono9 (fun k hk => ⟨by omega, hk.2⟩))).mono ?_); clear htg; rintro e w4 ⟨rfl, hb34⟩; have hz4 := hz3.below hb34 hz3.lt; have hb4 := below_pre hb3 hb34; have hk4 := hk3.below hb34 hk3.lt; have hx4 := RV.mono (RV.of_own (ownsRow_below hx3 hb34 (Nat.le_refl _))) (fun k hk hk2 => (⟨by have := ((ownsRow_below hx3 hb34 (Nat.le_refl _)).lt k hk2).1; omega, hk⟩ : w.heap.size + 1 ≤ k ∧ k < w4.heap.size)); have hO4 := (hO3.below hb34).low.grow (G' := fun k => w.heap.size + 1 ≤ k ∧ k < w4.heap.size) (fun k hk => ⟨by omega, hk.2⟩); have hS4 := (hS3.below hb34).low.mono9 (G' := fun k => w.heap.size + 1 ≤ k ∧ k < w4.heap.size) (fun k hk => ⟨by omega, hk.2⟩))
          | (refine wpList_load_row rfl 71 _ rfl w2.heap.size rfl 71 _ (0, 0) _ hk4 Tryz.underlying71 rfl (sizeDr _ _ _) ?_)
          | (go_at_call 37; (with_reducible refine (hdu _ _ _ _ hx4 hO4 hS4).mono ?_); clear hdu; rintro e w5 ⟨⟨vp, vs, rfl, hdv⟩, hb5⟩; have hz5 := hz4.below hb5 hz4.lt; obtain ⟨rp, rc, rfl, _, _⟩ := hdv.progs.shape; obtain ⟨rs, rc', rfl, _, _⟩ := hdv.starts.shape; have hb05 := below_pre hb4 hb5; have HDV := Lib.hid hdv)
          | (refine wpList_store_row rfl 27 _ _ rfl w.heap.size (RD.cells (.slice rp RD.progs.length rc) (.slice rs RD.starts.length rc')) rfl rfl 27 _ hz5 (sizeY _ _ _) rfl (oneY _ _ _ _ _ _ _) ?_))
        refine bodyPost_ret (results_row_tmp rfl _ _ w.heap.size 27 (RD.cells (.slice rp RD.progs.length rc) (.slice rs RD.starts.length rc')) (0, 0) _ rfl (hz5.row _) Tryz.underlying27 rfl (sizeY _ _ _)) rfl ?_
        have hlt4 := hz4.lt
        refine ⟨⟨_, _, rfl, ?_⟩, hb05.trans (foot_row _ (Nat.le_refl _))⟩
        exact DV.foot (HDV.out.grow (G' := fun k => w.heap.size + 1 ≤ k) (fun k hk => by rcases hk with hk | hk <;> omega)) (foot_setRow _ _ _) (fun k hk e => by omega)
    · rw [if_neg hf] at hR
      subst hR
      have tf : ((f : Int) != 0) = true := by simp; omega
      clear hf hok h7 h64
      go_enter Tryz.func16, Tryz.ntmps16
      go_wp2_with (first
        | (refine wpList_alloc_agg rfl 27 rfl (zeroY.cells (.slice none 0 0) (.slice none 0 0)) zeroYR ?_)
          | (refine wpList_alloc_agg rfl 71 rfl #[.slice none 0 0, .slice none 0 0, .slice none 0 0] zeroDr ?_)
          | (go_at_call 46; (with_reducible refine hread.mono ?_); clear hread; rintro e w1 ⟨⟨r, rfl, hr1, hrd1⟩, hb1⟩; have hz1 := hz0.below hb1 hz0.lt; have hbw1 := below_pre hb0 hb1; have hr0 : w.heap.size + 1 ≤ r := (by simpa using hr1); have hs1 : w.heap.size + 1 ≤ w1.heap.size := hz1.lt)
          | (go_at_call 47; (with_reducible refine (hgd _ _ hrd1).mono ?_); clear hgd; rintro e w2 ⟨⟨hv, pv, sv, rfl, hx2, hO2, hS2⟩, hrd2⟩; obtain ⟨hp, hc, rfl⟩ := own_shape9 hx2; obtain ⟨pp, pc, rfl⟩ : ∃ p c, pv = .slice p dr.progs.length c := (by obtain ⟨us, _, ho, _⟩ := hO2; exact own_shape9 ho); obtain ⟨sp, sc, rfl⟩ : ∃ p c, sv = .slice p dr.starts.length c := (by obtain ⟨us, _, ho, _⟩ := hS2; exact own_shape9 ho); have hz2 := hz1.foot hrd2.2 (by omega); have hbw2 : Below w.heap.size w w2 := hbw1.trans (hrd2.2.below (B := w.heap.size) (by omega) (fun k (hk : k = r) => by omega)); have ha3 := below_alloc1 w2 (.cells #[.slice hp 7 hc, .slice pp dr.progs.length pc, .slice sp dr.starts.length sc] 71); have hk3 := Blk.new w2 71 #[.slice hp 7 hc, .slice pp dr.progs.length pc, .slice sp dr.starts.length sc]; have hz3 := hz2.below ha3 hz2.lt; have hb3 := below_pre hbw2 ha3; have hrd3 := hrd2.1.below ha3 (Nat.le_refl _); have hx3 := (hx2.alloc (.cells #[.slice hp 7 hc, .slice pp dr.progs.length pc, .slice sp dr.starts.length sc] 71)); have hO3 := hO2.below ha3; have hS3 := hS2.below ha3)
          | (refine wpList_store_row rfl 71 _ _ rfl w2.heap.size #[.slice hp 7 hc, .slice pp dr.progs.length pc, .slice sp dr.starts.length sc] rfl rfl 71 _ (heap_alloc_new w2 _) (sizeDr _ _ _) rfl (oneDr _ _ _ _ _ _ _ _ _) ?_; rw [World.setRow_alloc_new])
          | (go_at_call 48; (with_reducible refine (HDN.out _ _ hrd3).mono ?_); rintro e w4 ⟨rfl, rfl⟩)
        | (refine wpList_store_row rfl 27 _ _ rfl w.heap.size (zeroY.cells (.slice none 0 0) (.slice none 0 0)) rfl rfl 27 _ hz3 (sizeY _ _ _) rfl (oneY _ _ _ _ _ _ _) ?_))
      refine bodyPost_ret (results_row_tmp rfl _ _ w.heap.size 27 (zeroY.cells (.slice none 0 0) (.slice none 0 0)) (0, 0) _ rfl (hz3.row _) Tryz.underlying27 rfl (sizeY _ _ _)) rfl ?_
      exact ⟨⟨_, _, rfl, ⟨RPP.nil _ _, RSs.nil _ _⟩⟩, hb3.trans (foot_row _ (Nat.le_refl _))⟩
  · rw [if_neg hy] at hR
    subst hR
    have t2 : ((y : Int) != 0) = true := by simp; omega
    clear hy hok
    go_enter Tryz.func16, Tryz.ntmps16
    go_wp2_with (first
      | (refine wpList_alloc_agg rfl 27 rfl (zeroY.cells (.slice none 0 0) (.slice none 0 0)) zeroYR ?_)
          | (refine wpList_alloc_agg rfl 71 rfl #[.slice none 0 0, .slice none 0 0, .slice none 0 0] zeroDr ?_)
          | (go_at_call 46; (with_reducible refine hread.mono ?_); clear hread; rintro e w1 ⟨⟨r, rfl, hr1, hrd1⟩, hb1⟩; have hz1 := hz0.below hb1 hz0.lt; have hbw1 := below_pre hb0 hb1; have hr0 : w.heap.size + 1 ≤ r := (by simpa using hr1); have hs1 : w.heap.size + 1 ≤ w1.heap.size := hz1.lt)
          | (go_at_call 47; (with_reducible refine (hgd _ _ hrd1).mono ?_); clear hgd; rintro e w2 ⟨⟨hv, pv, sv, rfl, hx2, hO2, hS2⟩, hrd2⟩; obtain ⟨hp, hc, rfl⟩ := own_shape9 hx2; obtain ⟨pp, pc, rfl⟩ : ∃ p c, pv = .slice p dr.progs.length c := (by obtain ⟨us, _, ho, _⟩ := hO2; exact own_shape9 ho); obtain ⟨sp, sc, rfl⟩ : ∃ p c, sv = .slice p dr.starts.length c := (by obtain ⟨us, _, ho, _⟩ := hS2; exact own_shape9 ho); have hz2 := hz1.foot hrd2.2 (by omega); have hbw2 : Below w.heap.size w w2 := hbw1.trans (hrd2.2.below (B := w.heap.size) (by omega) (fun k (hk : k = r) => by omega)); have ha3 := below_alloc1 w2 (.cells #[.slice hp 7 hc, .slice pp dr.progs.length pc, .slice sp dr.starts.length sc] 71); have hk3 := Blk.new w2 71 #[.slice hp 7 hc, .slice pp dr.progs.length pc, .slice sp dr.starts.length sc]; have hz3 := hz2.below ha3 hz2.lt; have hb3 := below_pre hbw2 ha3; have hrd3 := hrd2.1.below ha3 (Nat.le_refl _); have hx3 := (hx2.alloc (.cells #[.slice hp 7 hc, .slice pp dr.progs.length pc, .slice sp dr.starts.length sc] 71)); have hO3 := hO2.below ha3; have hS3 := hS2.below ha3)
          | (refine wpList_store_row rfl 71 _ _ rfl w2.heap.size #[.slice hp 7 hc, .slice pp dr.progs.length pc, .slice sp dr.starts.length sc] rfl rfl 71 _ (heap_alloc_new w2 _) (sizeDr _ _ _) rfl (oneDr _ _ _ _ _ _ _ _ _) ?_; rw [World.setRow_alloc_new])
          | (go_at_call 48; (with_reducible refine (HDN.out _ _ hrd3).mono ?_); rintro e w4 ⟨rfl, rfl⟩)
      | (refine wpList_store_row rfl 27 _ _ rfl w.heap.size (zeroY.cells (.slice none 0 0) (.slice none 0 0)) rfl rfl 27 _ hz3 (sizeY _ _ _) rfl (oneY _ _ _ _ _ _ _) ?_))
    refine bodyPost_ret (results_row_tmp rfl _ _ w.heap.size 27 (zeroY.cells (.slice none 0 0) (.slice none 0 0)) (0, 0) _ rfl (hz3.row _) Tryz.underlying27 rfl (sizeY _ _ _)) rfl ?_
    exact ⟨⟨_, _, rfl, ⟨RPP.nil _ _, RSs.nil _ _⟩⟩, hb3.trans (foot_row _ (Nat.le_refl _))⟩
end Go.Proofs.YtbdimfcdpkldpaaGreatDoor
