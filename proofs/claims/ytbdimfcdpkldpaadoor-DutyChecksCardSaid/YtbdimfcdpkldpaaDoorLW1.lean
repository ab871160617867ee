/- The contracts of package wire's number, and of the reference's Num, Truth and Bytes. The contracts of package wire's fault, New and add, and what a writer stands at. The contracts of slices.Clone over bytes, of the writer's methods, of the reference's Truth and Bytes, and of the statements' own short, laid and write. The contracts of the writer's Done, and of the statements' own laid and write of a thing. The contracts of the reader's Read, take, Byte, Num, Upto, Truth, Bytes, Left, Err, Done. -/
import Derived.Test.YtbdimfcdpkldpaaDoorLB
import Derived.Test.YtbdimfcdpkldpaaDoorLDM
import Derived.Test.YtbdimfcdpkldpaaDoorShelf
import Derived.WalkLawsBesides
import Derived.Laws.ShiftsVarLaws
import Derived.Outline
import Derived.Deep.QuietTactic
import Derived.BigQuiet
import Derived.WalkSpells
namespace Go.Proofs.YtbdimfcdpkldpaaDoor.Wire
open Go.RowKit

/-- A byte as a value. -/
def bV (c : UInt8) : Value := .int .u8 (c.toNat : Int)
theorem bV_one (c : UInt8) : (bV c).oneCell' = true := rfl
theorem bV_of (n : Nat) (h : n < 256) : bV (UInt8.ofNat n) = .int .u8 (n : Int) := by
  unfold bV; rw [UInt8.toNat_ofNat_of_lt' (by show n < 256; exact h)]
theorem infoB : (Tryd.prog.info? 5).map (fun i => (i.zero, i.size, i.bytes)) = some (some (.int .u8 0), 1, 1) := by kernel_rfl

theorem num_snoc (x n j : Nat) (hj : j < n) : (UInt8.ofNat n :: be (n - (j + 1)) (x / 256 ^ (j + 1))).map bV ++ [Value.int .u8 ((x : Int) / 2 ^ (8 * j) % 256)] = (UInt8.ofNat n :: be (n - j) (x / 256 ^ j)).map bV := by
  have e : (x : Int) / 2 ^ (8 * j) % 256 = ((x / 256 ^ j % 256 : Nat) : Int) := by
    simp only [pow256, Int.natCast_emod, Int.natCast_ediv, Int.natCast_pow]; rfl
  rw [e, show n - j = n - (j + 1) + 1 by omega, ← be_step, ← List.cons_append, List.map_append, List.map_singleton, bV_of _ (Nat.mod_lt _ (by decide))]

theorem rnum_cons (x k : Nat) : Value.int .u8 (((x / 256 ^ k : Nat) : Int) % 256) :: (be k x).map bV = (be (k + 1) x).map bV := by
  rw [be_cons, List.map_cons, bV_of _ (Nat.mod_lt _ (by decide))]
  rfl

end Go.Proofs.YtbdimfcdpkldpaaDoor.Wire

namespace Go.Proofs.YtbdimfcdpkldpaaDoor.Wire
open Go.RowKit

/-- What a writer holds behind bytes that were added: nothing, once they were too many. -/
def wAdd (most : Nat) (st : Option (List UInt8)) (bs : List UInt8) : Option (List UInt8) := st.bind fun l => if most < l.length + bs.length then none else some (l ++ bs)
theorem wAdd_append (most : Nat) (st : Option (List UInt8)) (a b : List UInt8) : wAdd most (wAdd most st a) b = wAdd most st (a ++ b) := by
  cases st with
  | none => rfl
  | some l =>
    simp only [wAdd, Option.bind_some, List.length_append]
    by_cases h : most < l.length + a.length
    · rw [if_pos h, if_pos (by omega)]; rfl
    · rw [if_neg h]
      simp only [Option.bind_some, List.length_append, List.append_assoc, Nat.add_assoc]

section
variable {w w' w1 w2 : World} {B b most : Nat} {v : Value} {st st2 : Option (List UInt8)}
end

end Go.Proofs.YtbdimfcdpkldpaaDoor.Wire

namespace Go.Proofs.YtbdimfcdpkldpaaDoor.Wire
open Go.RowKit

theorem RV.new {w : World} (c : UInt8) : RV (w.alloc (.cells #[.int .u8 (c.toNat : Int)] 5)) (fun b => w.heap.size ≤ b) (.slice (some ⟨w.heap.size, 0, none⟩) 1 1) ([c].length) 1 ([c].map bV) := by
  have h := RV.of_own (World.ownsRow_lit (e := 5) (size := 1) w #[.int .u8 (c.toNat : Int)] 1 (Nat.le_refl _) (by decide) rfl)
  exact h.mono fun k _ hk => by simp [Value.ownBlock] at hk; omega

section
variable {B b most : Nat} {v : Value} {st : Option (List UInt8)}
theorem below_alloc (w : World) (o : Obj) : Below w.heap.size w (w.alloc o) := (Below.refl _ _).alloc (Nat.le_refl _) _

theorem wAdd_len {l0 l1 : List UInt8} {bs : List UInt8} (h : wAdd most (some l0) bs = some l1) : l1.length = l0.length + bs.length := by
  simp only [wAdd, Option.bind_some] at h
  split at h
  · cases h
  · injection h with h; rw [← h, List.length_append]
theorem wAdd_small {n m : Nat} {bs : List UInt8} (hl : ∀ l, st = some l → l.length ≤ n) (hb : bs.length ≤ m) : ∀ l, wAdd most st bs = some l → l.length ≤ n + m := by
  intro l h
  cases st with
  | none => cases h
  | some l0 => rw [wAdd_len h]; have := hl l0 rfl; omega

end

end Go.Proofs.YtbdimfcdpkldpaaDoor.Wire

namespace Go.Proofs.YtbdimfcdpkldpaaDoor.Wire
open Go.RowKit

end Go.Proofs.YtbdimfcdpkldpaaDoor.Wire

namespace Go.Proofs.YtbdimfcdpkldpaaDoor.Wire
open Go.RowKit

theorem RV_rest {w : World} {G : Nat → Prop} {p : Option Addr} {n c sz : Nat} {xs : List Value} (h : RV w G (.slice p n c) n sz xs) (k : Nat) (hk : k ≤ n) :
    RV w G (.slice (if c = k then p else p.map (·.add (k * sz))) (n - k) (c - k)) (n - k) sz (xs.drop (k * sz)) := by
  obtain ⟨p', c', hv, h1, h2, h3, h4, h5⟩ := h
  cases hv
  refine ⟨_, _, rfl, by omega, by omega, ?_, by rw [List.length_drop, h4, Nat.sub_mul], ?_⟩
  · intro e
    split at e
    · have := h3 e; omega
    · have := h3 (by simpa using e); omega
  · by_cases hkn : n - k = 0
    · exact .inl hkn
    · obtain ⟨b, off, rfl, hb, hG, hc⟩ := h5.resolve_left (by omega)
      rw [if_neg (by omega)]
      refine .inr ⟨b, off + k * sz, ?_, hb, hG, fun j u hu => ?_⟩
      · simp only [Option.map_some, Option.some.injEq]
        unfold Addr.add; split <;> simp_all
      · rw [List.getElem?_drop] at hu
        rw [Nat.add_assoc]
        exact hc _ u hu

theorem rdByte_snd (st : RS) : (rdByte st).2 < 256 := by
  match st with
  | .ok [] => exact (by decide : 0 < 256)
  | .ok (c :: l) => exact c.toNat_lt
  | .err e => exact (by decide : 0 < 256)

end Go.Proofs.YtbdimfcdpkldpaaDoor.Wire
