/- The contracts of package nums' addWord and Words. -/
import Derived.Test.YtbjmdcjoaapmiaaDoorN8
import Derived.Test.YtbjmdcjoaapmiaaDoorNM2
import Derived.Laws.CopyOwn
import Derived.Below
import Derived.Deep.Onto
import Derived.OpenShut
import Derived.Laws.DeepStrings4
namespace Go.Proofs.YtbjmdcjoaapmiaaDoor
open Go.RowKit

/-- A text as a value. -/
def sV (l : List UInt8) : Value := .string ⟨l.toArray⟩
theorem sV_data (s : ByteArray) : sV s.data.toList = .string s := rfl
theorem infoS : (Tryd.prog.info? 9).map (fun i => (i.zero, i.size, i.bytes)) = some (some (.string ⟨#[]⟩), 1, 16) := by kernel_rfl

theorem clone_any (s : ByteArray) (hs : s.size ≤ 1000) (w : World) :
    Calls Tryd.prog 81 #[.string s] w fun e w' => e = .returned (.string s) ∧ Below w.heap.size w w' := by
  have h := Tryd.stringslite_Clone s w (by omega)
  clear hs
  go_enter Tryd.func81, Tryd.ntmps81
  go_wp2_with (go_at_call 91; refine h.mono ?_; rintro e w' ⟨rfl, hb⟩)
  go_ret
  exact ⟨rfl, hb⟩

/-- A row stays one's own where every block of cells stays as it was. -/
theorem own_keep {w w' : World} {B : Nat} {e : TypeId} {size n : Nat} {v : Value} {xs : List Value} (h : w.ownsRow B e size v n xs)
    (hk : ∀ (g : Nat) cs, w.heap[g]? = some (.cells cs e (0, 0)) → w'.heap[g]? = some (.cells cs e (0, 0))) : w'.ownsRow B e size v n xs :=
  ⟨h.1, h.2.imp id fun ⟨g, cap, cur, hv, hb, hg, r⟩ => ⟨g, cap, cur, hv, hb, hk g cur hg, r⟩⟩
theorem ownsRow_below {w w' : World} {base B : Nat} {e : TypeId} {size : Nat} {v : Value} {n : Nat} {xs : List Value} (h : w.ownsRow base e size v n xs) (hb : Below B w w') (hB : w.heap.size ≤ B) : w'.ownsRow base e size v n xs :=
  own_keep h fun g cs hg => by
    have := (Array.getElem?_eq_some_iff.1 hg).1
    rw [hb.block g (by omega)]; exact hg
theorem own_iter {w : World} {B : Nat} {e : TypeId} {size n : Nat} {v : Value} {xs : List Value} {k : Nat} {s : ByteArray} {pos : Nat} (h : w.ownsRow B e size v n xs) (hit : w.heap[k]? = some (.stringIter s pos)) (pos' : Nat) :
    (w.iterAt k s pos').ownsRow B e size v n xs :=
  own_keep h fun g cs hg => by
    have hne : g ≠ k := by rintro rfl; simp [hit] at hg
    rw [Lib.iterAt_other _ _ _ _ _ hne]; exact hg
theorem iter_free {w : World} {B : Nat} {e : TypeId} {size n : Nat} {v : Value} {xs : List Value} {k : Nat} {s : ByteArray} {pos : Nat} (h : w.ownsRow B e size v n xs) (hit : w.heap[k]? = some (.stringIter s pos)) : some k ≠ v.ownBlock := by
  intro hke
  obtain ⟨_, ⟨rfl, _⟩ | ⟨g, cap, cur, rfl, _, hg, _⟩⟩ := h
  · cases hke
  · cases hke
    simp [hit] at hg
theorem wl_snoc (ws : List (List UInt8)) (l : List UInt8) : ws.map sV ++ [sV l] = (ws ++ [l]).map sV := by rw [List.map_append]; rfl
theorem nil_of_size (s : ByteArray) (h : s.size = 0) : s.data.toList = [] := List.length_eq_zero_iff.1 h

set_option maxHeartbeats 800000 in
theorem addWord_any (B : Nat) (v : Value) (ws : List (List UInt8)) (s : ByteArray) (hs : s.size ≤ 1000) (hn : ws.length ≤ 1000) (w : World) (hB : B ≤ w.heap.size) (hown : w.ownsRow B 9 1 v ws.length (ws.map sV)) :
    Calls Tryd.prog 65 #[v, .string s] w fun e w' => ∃ v', e = .returned v' ∧ w'.ownsRow B 9 1 v' (addW ws s.data.toList).length ((addW ws s.data.toList).map sV) ∧ w.grownBy w' v.ownBlock := by
  obtain ⟨i0, hi, hz0, hz1, hz2⟩ := info_parts infoS
  by_cases h0 : s.size = 0
  · have he : s = ⟨#[]⟩ := by
      apply ByteArray.ext
      exact Array.eq_empty_of_size_eq_zero h0
    subst he
    rw [show (ByteArray.mk #[]).data.toList = [] from rfl, addW_nil]
    go_enter Tryd.func65, Tryd.ntmps65
    go_wp2
    go_ret
    exact ⟨_, rfl, hown, ⟨rfl, rfl, rfl, Nat.le_refl _, fun _ _ _ => rfl⟩⟩
  · have hne' : s.data.toList ≠ [] := by
      intro e
      apply h0
      have : s.data.toList.length = s.size := rfl
      rw [← this, e]; rfl
    have hne : ¬ s.toList = [] := by rw [Lib.toList_data]; exact hne'
    have hem : s.toList.isEmpty = false := by
      cases hl : s.toList with
      | nil => exact absurd hl hne
      | cons c r => rfl
    rw [addW_some ws hne']
    have HO := Lib.hid hown
    have hc := clone_any s hs w
    clear hown hne' h0
    go_enter Tryd.func65, Tryd.ntmps65
    go_wp2_with (first
      | (go_at_call 81; refine hc.mono ?_; clear hc; rintro e w1 ⟨rfl, hb1⟩; have hown1 := ownsRow_below HO.out hb1 (Nat.le_refl _); have hs1 := hb1.size)
      | (at_builtin; refine wpList_append_own _ rfl _ _ 57 rfl B 9 i0 (.string ⟨#[]⟩) 1 16 Tryd.underlying57 hi hz0 hz1 hz2 rfl (by decide) _ _ _ rfl (hown1.alloc _) ⟨w1.heap.size, 0, none⟩ 1 1 [.string s] rfl rfl (cell_one_new _ _ _) (by simp [Value.oneCell']) (by unfold maxLen; omega) (by omega) (by simp; omega) ?_; intro v' w2 hown2 hgrow _))
    go_ret
    refine ⟨v', rfl, ?_, ?_⟩
    · rw [List.length_append, ← wl_snoc, sV_data]; exact hown2
    · exact ⟨hgrow.os.trans hb1.os, hgrow.tape.trans hb1.tape, hgrow.output.trans hb1.output, by have := hgrow.size; simp at this; omega, fun k hk hne => ((hgrow.block k (by simp; omega) hne).trans (Below.heap_alloc _ _ _ (by omega))).trans (hb1.block k hk)⟩

theorem get_bang (s : ByteArray) (i : Nat) (h : i < s.size) : s.get! i = s[i]'h := get_at s i h
/-- What a rune's bytes are: either the blank alone, or no blank among them. -/
theorem high_bytes (s : ByteArray) (pos : Nat) (hp : pos < s.size) (ha : ¬ (s[pos]'hp).toNat < 128) : ∀ j, j < (Utf8.decode s pos).2 → pos + j < s.size ∧ 128 ≤ (s.get! (pos + j)).toNat := by
  have h0 : 128 ≤ (s.get! pos).toNat := by rw [get_bang s pos hp]; omega
  simp only [Utf8.decode, Nat.add_zero]
  have hn : ¬ (s.get! pos).toNat < 128 := by omega
  intro j
  rw [if_neg hn]
  repeat' split
  all_goals intro hj
  all_goals simp only [Bool.and_eq_true, decide_eq_true_eq, beq_iff_eq] at *
  all_goals (rcases (show j = 0 ∨ j = 1 ∨ j = 2 ∨ j = 3 by omega) with rfl | rfl | rfl | rfl)
  all_goals first
    | (exact ⟨by omega, by simpa using h0⟩)
    | (refine ⟨by omega, by omega⟩)
    | omega
theorem width_in (s : ByteArray) (pos : Nat) (hp : pos < s.size) : pos + (Utf8.decode s pos).2 ≤ s.size := by
  by_cases ha : (s[pos]'hp).toNat < 128
  · rw [decode_ascii s pos hp ha]; show pos + 1 ≤ _; omega
  · have h1 := width_pos s pos hp
    have := (high_bytes s pos hp ha ((Utf8.decode s pos).2 - 1) (by omega)).1
    omega
theorem rune_cases (s : ByteArray) (pos : Nat) (hp : pos < s.size) :
    ((Utf8.decode s pos).1 = 32 ∧ s[pos]'hp = 32 ∧ (Utf8.decode s pos).2 = 1) ∨ ((Utf8.decode s pos).1 ≠ 32 ∧ ∀ c ∈ (s.data.toList.drop pos).take (Utf8.decode s pos).2, c ≠ 32) := by
  by_cases ha : (s[pos]'hp).toNat < 128
  · rw [decode_ascii s pos hp ha]
    by_cases h : s[pos]'hp = 32
    · left
      exact ⟨by show (s[pos]'hp).toNat = 32; rw [h]; rfl, h, rfl⟩
    · right
      refine ⟨fun e => h (UInt8.toNat_inj.1 e), ?_⟩
      rw [drop_at s pos hp]
      intro c hc
      have : c = s[pos]'hp := by simpa using hc
      rw [this]; exact h
  · right
    refine ⟨fun e => by have := (decode_high s pos hp (by omega)).1; omega, ?_⟩
    intro c hc
    obtain ⟨j, hj, rfl⟩ := List.mem_iff_getElem.1 hc
    have hj' : j < (Utf8.decode s pos).2 := by rw [List.length_take] at hj; omega
    obtain ⟨h1, h2⟩ := high_bytes s pos hp ha j hj'
    rw [get_bang s _ h1] at h2
    rw [List.getElem_take, List.getElem_drop]
    intro e
    have : (s[pos + j]'h1).toNat = 32 := by
      rw [show s[pos + j]'h1 = s.data.toList[pos + j]'(by show pos + j < s.data.toList.length; exact h1) from rfl, e]; rfl
    omega

theorem cur_grow (l : List UInt8) (st pos k : Nat) (h : st ≤ pos) : (l.drop st).take (pos - st) ++ (l.drop pos).take k = (l.drop st).take (pos + k - st) := by
  rw [show pos + k - st = (pos - st) + k by omega, List.take_add, List.drop_drop, show st + (pos - st) = pos by omega]
theorem extract_list (s : ByteArray) (a b : Nat) : (s.extract a b).data.toList = (s.data.toList.drop a).take (b - a) := Lib.extract_data s a b

set_option maxHeartbeats 1600000 in
theorem Words_any (s : ByteArray) (hs : s.size ≤ 1000) (w : World) :
    Calls Tryd.prog 37 #[.string s] w fun e w' => ∃ v, e = .returned v ∧ w'.ownsRow w.heap.size 9 1 v (wordsGo [] s.data.toList).length ((wordsGo [] s.data.toList).map sV) ∧ Below w.heap.size w w' := by
  generalize hD : wordsGo [] s.data.toList = D
  have HD := Lib.hid hD
  clear hD
  go_enter Tryd.func37, Tryd.ntmps37
  go_wp2
  go_loopw [3, 4] (fun v vst wr => ∃ (pos st : Nat) (ws : List (List UInt8)), vst = .int .i64 st ∧ st ≤ pos ∧ pos ≤ s.size ∧ ws.length ≤ pos ∧ wr.heap[w.heap.size]? = some (.stringIter s pos) ∧ Below w.heap.size w wr ∧
    wr.ownsRow w.heap.size 9 1 v ws.length (ws.map sV) ∧ Hid (ws ++ wordsGo ((s.data.toList.drop st).take (pos - st)) (s.data.toList.drop pos) = D)) (fun _ _ wr => s.size - wr.iterPos w.heap.size)
  case atStart => exact ⟨0, 0, [], rfl, by omega, by omega, by simp, World.iter_heap w s 0, (Below.refl _ _).alloc (Nat.le_refl _) _, World.ownsRow_nil _ _ _ _, Lib.hid (by simpa using HD.out)⟩
  case round =>
    obtain ⟨pos, st, ws, rfl, hsp, hps, hwl, hit, hb, hown, HW⟩ := hrel
    by_cases hp : pos < s.size
    · have hnx : ∀ ty, (Instr.next (.pointer (some ⟨w.heap.size, 0, none⟩)) true ty).run Tryd.prog wr = _ := fun ty => Lib.run_next_any_at wr w.heap.size s pos ty hit hp
      have hwd := width_pos s pos hp
      have hwi := width_in s pos hp
      have hrc := rune_cases s pos hp
      have hdr := List.take_append_drop (Utf8.decode s pos).2 (s.data.toList.drop pos)
      rw [List.drop_drop] at hdr
      have hitp : wr.iterPos w.heap.size = pos := by simp [World.iterPos, hit]
      have hbi := Lib.below_iterAt hb (k := w.heap.size) (Nat.le_refl _) s (pos + (Utf8.decode s pos).2)
      have hiti := Lib.iterAt_heap wr w.heap.size s pos (pos + (Utf8.decode s pos).2) hit
      have howni : (wr.iterAt w.heap.size s (pos + (Utf8.decode s pos).2)).ownsRow w.heap.size 9 1 _ ws.length (ws.map sV) := own_iter hown hit _
      generalize hW2 : wr.iterAt w.heap.size s (pos + (Utf8.decode s pos).2) = W2 at hnx hbi hiti howni
      clear hW2
      generalize (Utf8.decode s pos).1 = R at hnx hrc
      generalize (Utf8.decode s pos).2 = K at hnx hrc hwd hwi hdr hiti
      rcases hrc with ⟨rfl, h32, rfl⟩ | ⟨hR, hch⟩
      · have hnew : addW ws ((s.data.toList.drop st).take (pos - st)) ++ wordsGo ((s.data.toList.drop (pos + 1)).take (pos + 1 - (pos + 1))) (s.data.toList.drop (pos + 1)) = D := by
          rw [← HW.out, drop_at s pos hp, h32, go_blank, Nat.sub_self, List.take_zero]
        have hsz : (s.extract st pos).size ≤ 1000 := by rw [ByteArray.size_extract]; omega
        have hadd := addWord_any w.heap.size _ ws (s.extract st pos) hsz (by omega) W2 hbi.size howni
        rw [extract_list] at hadd
        have hlen : (addW ws ((s.data.toList.drop st).take (pos - st))).length ≤ ws.length + 1 := by
          unfold addW; split
          · omega
          · simp
        generalize addW ws ((s.data.toList.drop st).take (pos - st)) = ws2 at hnew hadd hlen
        have HN := Lib.hid hnew
        clear hnew h32 hdr HW hsz
        go_wp2_with (go_at_call 65; refine hadd.mono ?_; clear hadd; rintro e w3 ⟨v3, rfl, hown3, hgrow⟩)
        have hit3 := (hgrow.block w.heap.size (Array.getElem?_eq_some_iff.1 hiti).1 (iter_free howni hiti)).trans hiti
        have hb3 := hbi.grown hgrow hbi.size (fun k hk => (howni.lt k hk).1)
        go_roundw
        case rel => exact ⟨pos + 1, pos + 1, ws2, by go_num, by omega, by omega, by omega, hit3, hb3, hown3, HN⟩
        case measure => simp [World.iterPos, hit3, hit]; omega
      · have hR2 : (((R : Nat) : Int) == 32) = false := by rw [beq_eq_false_iff_ne]; omega
        have hnew : ws ++ wordsGo ((s.data.toList.drop st).take (pos + K - st)) (s.data.toList.drop (pos + K)) = D := by
          rw [← HW.out, ← hdr, go_chunk _ _ _ hch, cur_grow _ _ _ _ hsp]
        have HN := Lib.hid hnew
        clear hnew hch hdr hR HW
        go_wp2
        go_roundw
        case rel => exact ⟨pos + K, st, ws, rfl, by omega, by omega, by omega, hiti, hbi, howni, HN⟩
        case measure => simp [World.iterPos, hiti, hit]; omega
    · have hnx : ∀ ty, (Instr.next (.pointer (some ⟨w.heap.size, 0, none⟩)) true ty).run Tryd.prog wr = _ := fun ty => Lib.run_next_end_at wr w.heap.size s pos ty hit hp
      obtain rfl : pos = s.size := by omega
      have hsz : (s.extract st s.size).size ≤ 1000 := by rw [ByteArray.size_extract]; omega
      have hadd := addWord_any w.heap.size _ ws (s.extract st s.size) hsz (by omega) wr hb.size hown
      have hfin : addW ws ((s.data.toList.drop st).take (s.size - st)) = D := by
        rw [← HW.out, drop_end s s.size hp, go_end]
      rw [extract_list, hfin] at hadd
      clear hfin hsz HW
      go_wp2_with (go_at_call 65; refine hadd.mono ?_; clear hadd; rintro e w3 ⟨v3, rfl, hown3, hgrow⟩)
      have hb3 := hb.grown hgrow hb.size (fun k hk => (hown.lt k hk).1)
      go_ret
      exact ⟨v3, rfl, hown3, hb3⟩
end Go.Proofs.YtbjmdcjoaapmiaaDoor
