/- A book's cells; the contracts of New and of the reference's New. -/
import Derived.Test.YtpkgbhoifmaagaaT2
import Derived.Laws.Rows
import Derived.Laws.CopyOwn
import Derived.Deep.WholeRow
import Derived.Great.BuildSlice
namespace Go.Proofs.Ytpkgbhoifmaagaa
open Go.RowKit

/-- A number and sixty-four more, as cells. -/
def bookArr (n : Nat) (f : Nat → Nat) : Array Value := (Value.int .u64 (n : Int) :: (List.range 64).map fun j => Value.int .u64 (f j : Int)).toArray
theorem bookArr_size (n : Nat) (f : Nat → Nat) : (bookArr n f).size = 65 := by simp [bookArr]
theorem bookArr_one (n : Nat) (f : Nat → Nat) : (bookArr n f).all (·.oneCell') = true := by
  rw [Array.all_eq_true_iff_forall_mem]
  intro v hv
  simp only [bookArr, List.mem_toArray, List.mem_cons, List.mem_map] at hv
  rcases hv with rfl | ⟨j, _, rfl⟩ <;> rfl
theorem bookArr_get0 (n : Nat) (f : Nat → Nat) : (bookArr n f)[0]? = some (Value.int .u64 (n : Int)) := by simp [bookArr]
theorem bookArr_get (n : Nat) (f : Nat → Nat) (k : Nat) (h : k < 64) : (bookArr n f)[k + 1]? = some (Value.int .u64 (f k : Int)) := by simp [bookArr, h]
theorem bookArr_set0 (n m : Nat) (f : Nat → Nat) : (bookArr n f).setIfInBounds 0 (.int .u64 (m : Int)) = bookArr m f := by simp [bookArr]
theorem bookArr_set (n : Nat) (f : Nat → Nat) (i s : Nat) : (bookArr n f).setIfInBounds (i + 1) (.int .u64 (s : Int)) = bookArr n (putF f i s) := by
  apply Array.ext
  · simp [bookArr]
  · intro k h1 h2
    have hk : k < 65 := by simpa [bookArr] using h2
    rw [Array.getElem_setIfInBounds]
    · simp only [bookArr, putF, List.getElem_toArray, List.getElem_cons, List.getElem_map, List.getElem_range]
      by_cases e : i + 1 = k
      · subst e; simp
      · by_cases e0 : k = 0
        · subst e0; simp
        · have e2 : ¬ (k - 1 = i) := by omega
          simp [e, e0, e2]
    · simpa [bookArr] using hk
theorem bookArr_congr (n : Nat) (f g : Nat → Nat) (h : ∀ j, j < 64 → f j = g j) : bookArr n f = bookArr n g := by
  unfold bookArr
  congr 2
  apply List.map_congr_left
  intro j hj
  rw [h j (List.mem_range.1 hj)]

theorem sizeB : (Try.prog.info? 57).map (·.size) = some 65 := by kernel_rfl
theorem sizeR : (Try.prog.info? 38).map (·.size) = some 65 := by kernel_rfl
theorem sizeRb (n : Nat) (f : Nat → Nat) : (Try.prog.info? 38).map (·.size) = some (bookArr n f).size := by rw [bookArr_size]; exact sizeR
theorem zeroR : ∀ w, (zeroValue 38).run Try.prog w = .ok (.agg (bookArr 0 (fun _ => 0))) w := (zero_of_info (n := 65) (by kernel_rfl)).1
theorem builtB (n : Int) : Try.prog.built 57 [(0, .int .u64 n)] = some ((Value.int .u64 n :: (List.range 64).map fun _ => Value.int .u64 0).toArray) := by kernel_rfl
theorem builtR (n : Int) : Try.prog.built 38 [(0, .int .u64 n)] = some ((Value.int .u64 n :: (List.range 64).map fun _ => Value.int .u64 0).toArray) := by kernel_rfl
theorem bookArr0 (n : Nat) : (Value.int .u64 (n : Int) :: (List.range 64).map fun _ => Value.int .u64 0).toArray = bookArr n (fun _ => 0) := rfl

/-- The words of a book's slots. -/
def words (st : Nat → Nat) : Nat → Nat := fun j => wd (st j) j
/-- The book at block b: its last stamp, each slot's stamp. -/
def BookAt (w : World) (b n : Nat) (st : Nat → Nat) : Prop := Blk w b 57 (bookArr n (words st)) ∧ n ≤ lastN ∧ ∀ j, st j ≤ n
theorem BookAt.below {w w' : World} {b n B : Nat} {st : Nat → Nat} (h : BookAt w b n st) (hb : Below B w w') (hB : b < B) : BookAt w' b n st := ⟨h.1.below hb hB, h.2⟩

/-- The last stamp that New takes. -/
def capN (n : Nat) : Nat := if n ≤ lastN then n else lastN
theorem capN_le (n : Nat) : capN n ≤ lastN := by unfold capN; split <;> omega

section
variable {P : Program}
/-- A new variable of a type of many cells. -/
theorem wpList_alloc_agg {ops : Array Oper} {rest : List Oper} {o : Oper} {a : Act} {w : World} {Q : Exit → Act → World → Prop} (hg : o.guard = none) (t : TypeId) (ho : o.op = .alloc t)
    (cells : Array Value) (hz : ∀ w, (zeroValue t).run P w = .ok (.agg cells) w)
    (h : wpList P ops Q rest (a.put o.dst (.pointer (some ⟨w.heap.size, 0, none⟩))) (w.alloc (.cells cells t))) : wpList P ops Q (o :: rest) a w := by
  refine wpList_plain hg fun K hK => ?_
  unfold Oper.wp execOp
  simp only [ho, Sem.run_bind, Instr.alloc, hz, newVar, newRow, run_newObj_alloc, Sem.run_pure, Result.andThen_ok, Value.cells]
  exact hK _ _ h
end

theorem zeroOf {P : Program} {t : TypeId} (h : (P.info? t).map (fun i => (i.zero, i.size)) = some (some (.agg (bookArr 0 fun _ => 0)), 65)) :
    ∃ zs, (∀ w, (zeroValue t).run P w = .ok (.agg zs) w) ∧ ¬ zs = #[] ∧ Hid (∀ m : Nat, zs.setIfInBounds 0 (.int .u64 (m : Int)) = bookArr m fun _ => 0) ∧ zs = bookArr 0 (fun _ => 0) :=
  ⟨_, (zero_of_info h).1, (fun e => by have := congrArg Array.size e; rw [bookArr_size] at this; cases this), Lib.hid (fun m => bookArr_set0 0 m _), rfl⟩
theorem zeroB : ∃ zs, (∀ w, (zeroValue 57).run Try.prog w = .ok (.agg zs) w) ∧ ¬ zs = #[] ∧ Hid (∀ m : Nat, zs.setIfInBounds 0 (.int .u64 (m : Int)) = bookArr m fun _ => 0) ∧ zs = bookArr 0 (fun _ => 0) := zeroOf (by kernel_rfl)
theorem zeroR' : ∃ zs, (∀ w, (zeroValue 38).run Try.prog w = .ok (.agg zs) w) ∧ ¬ zs = #[] ∧ Hid (∀ m : Nat, zs.setIfInBounds 0 (.int .u64 (m : Int)) = bookArr m fun _ => 0) ∧ zs = bookArr 0 (fun _ => 0) := zeroOf (by kernel_rfl)

theorem New_case (n m : Nat) (h : m = n ∧ ¬ (72057594037927935 : Int) < n ∨ m = 72057594037927935 ∧ (72057594037927935 : Int) < n) (w : World) :
    Calls Try.prog 12 #[.int .u64 (n : Int)] w fun e w' => e = .returned (.pointer (some ⟨w.heap.size, 0, none⟩)) ∧ w' = w.alloc (.cells (bookArr m (fun _ => 0)) 57) := by
  obtain ⟨zs, hz, hne, HZ, hzz⟩ := zeroB
  have HZ2 := Lib.hid (show zs.setIfInBounds 0 (.int .u64 72057594037927935) = bookArr 72057594037927935 fun _ => 0 from HZ.out 72057594037927935)
  have HZ2 := Lib.hid (show zs.setIfInBounds 0 (.int .u64 72057594037927935) = bookArr 72057594037927935 fun _ => 0 from HZ.out 72057594037927935)
  clear hzz
  rcases h with ⟨rfl, h⟩ | ⟨rfl, h⟩
  · go_enter Try.func12, Try.ntmps12
    go_wp2
    go_ret
    exact ⟨rfl, by rw [HZ.out]⟩
  · go_enter Try.func12, Try.ntmps12
    go_wp2
    go_ret
    exact ⟨rfl, by rw [HZ2.out]⟩

theorem New_any (n : Nat) (w : World) :
    Calls Try.prog 12 #[.int .u64 (n : Int)] w fun e w' => e = .returned (.pointer (some ⟨w.heap.size, 0, none⟩)) ∧ BookAt w' w.heap.size (capN n) (fun _ => 0) ∧ Below w.heap.size w w' := by
  refine (New_case n (capN n) ?_ w).mono ?_
  · unfold capN lastN
    by_cases h : n ≤ 72057594037927935
    · rw [if_pos h]; exact .inl ⟨rfl, by omega⟩
    · rw [if_neg h]; exact .inr ⟨rfl, by omega⟩
  · rintro e w' ⟨rfl, rfl⟩
    refine ⟨rfl, ⟨?_, capN_le n, fun _ => Nat.zero_le _⟩, below_alloc1 w _⟩
    rw [bookArr_congr (capN n) (words fun _ => 0) (fun _ => 0) (fun j _ => by simp [words, wd])]
    exact Blk.new _ _ _

set_option maxHeartbeats 400000 in
theorem RNew_case (n m : Nat) (h : m = n ∧ ¬ (72057594037927935 : Int) < n ∨ m = 72057594037927935 ∧ (72057594037927935 : Int) < n) (w : World) :
    Calls Try.prog 13 #[.int .u64 (n : Int)] w fun e w' => e = .returned (.agg (bookArr m (fun _ => 0))) ∧ Below w.heap.size w w' := by
  have hb := Lib.hid (below_alloc1 w)
  obtain ⟨zs, hz, hne, HZ, hzz⟩ := zeroR'
  have hsz : zs.size = 65 := by rw [hzz, bookArr_size]
  have hsz := Lib.hid hsz
  have HZ2 := Lib.hid (show zs.setIfInBounds 0 (.int .u64 72057594037927935) = bookArr 72057594037927935 fun _ => 0 from HZ.out 72057594037927935)
  clear hzz
  rcases h with ⟨rfl, h⟩ | ⟨rfl, h⟩
  · have ht : decide ((m : Int) > 72057594037927935) = false := by simp; omega
    clear h
    go_enter Try.func13, Try.ntmps13
    go_wp2_with (first | (refine wpList_alloc_agg rfl 38 rfl _ zeroR ?_) | (rw [HZ.out]; refine wpList_store_row rfl 38 _ _ rfl w.heap.size _ rfl rfl 38 _ (heap_alloc_new w _) (sizeRb _ _) (by rw [bookArr_size, bookArr_size]) (bookArr_one _ _) ?_; rw [World.setRow_alloc_new]))
    refine bodyPost_ret (results_cell_row rfl _ _ w.heap.size 38 _ (0, 0) _ rfl (heap_alloc_new w _) Try.underlying38 rfl (sizeRb _ _)) rfl ?_
    exact ⟨rfl, hb.out _⟩
  · have ht : decide ((n : Int) > 72057594037927935) = true := by simp; omega
    clear h
    go_enter Try.func13, Try.ntmps13
    go_wp2_with (first | (refine wpList_alloc_agg rfl 38 rfl _ zeroR ?_) | (rw [HZ2.out]; refine wpList_store_row rfl 38 _ _ rfl w.heap.size _ rfl rfl 38 _ (heap_alloc_new w _) (sizeRb _ _) (by rw [bookArr_size, bookArr_size]) (bookArr_one _ _) ?_; rw [World.setRow_alloc_new]))
    refine bodyPost_ret (results_cell_row rfl _ _ w.heap.size 38 _ (0, 0) _ rfl (heap_alloc_new w _) Try.underlying38 rfl (sizeRb _ _)) rfl ?_
    exact ⟨rfl, hb.out _⟩
theorem RNew_any (n : Nat) (w : World) :
    Calls Try.prog 13 #[.int .u64 (n : Int)] w fun e w' => e = .returned (.agg (bookArr (capN n) (fun _ => 0))) ∧ Below w.heap.size w w' := by
  refine RNew_case n (capN n) ?_ w
  unfold capN lastN
  by_cases h : n ≤ 72057594037927935
  · rw [if_pos h]; exact .inl ⟨rfl, by omega⟩
  · rw [if_neg h]; exact .inr ⟨rfl, by omega⟩
end Go.Proofs.Ytpkgbhoifmaagaa
