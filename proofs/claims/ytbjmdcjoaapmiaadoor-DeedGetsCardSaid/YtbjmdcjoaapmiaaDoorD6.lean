/- Structs of instructions compared. -/
import Derived.Test.YtbjmdcjoaapmiaaDoorD5
namespace Go.Proofs.YtbjmdcjoaapmiaaDoor
open Go.RowKit

theorem eq_run (d e : Deed) (w : World) : (binOp .eql 24 (.agg d.cells) (.agg e.cells)).run Tryd.prog w = .ok (.bool (eqD d e)) w := by
  obtain ⟨o, a, b, r, n, m, l⟩ := d
  obtain ⟨o', a', b', r', n', m', l'⟩ := e
  simp only [Deed.cells, eqD]
  rw [show ((n : Nat) == n') = ((n : Int) == (n' : Int)) by rw [Bool.eq_iff_iff]; simp; omega, show ((m : Nat) == m') = ((m : Int) == (m' : Int)) by rw [Bool.eq_iff_iff]; simp; omega]
  go_simp
  (repeat' split) <;> simp_all
theorem neq_run (d e : Deed) (w : World) : (binOp .neq 24 (.agg d.cells) (.agg e.cells)).run Tryd.prog w = .ok (.bool (!eqD d e)) w := by
  have h := eq_run d e w
  rw [run_eql_struct] at h
  rw [run_neq_struct]
  generalize (Op.equalIn 10000 24 (.agg d.cells) (.agg e.cells)).run Tryd.prog w = r at h
  cases r with
  | ok b w1 =>
    simp only [Result.andThen_ok, Result.ok.injEq, Value.bool.injEq] at h ⊢
    exact ⟨by rw [h.1], h.2⟩
  | halt x w1 => simp [Result.andThen] at h
theorem exec_eq {o : Oper} {ρ : Operand → Value} (x y : Operand) (t' : TypeId) (ho : o.op = .binOp .eql 24 x y t') (d e : Deed) (hx : ρ x = .agg d.cells) (hy : ρ y = .agg e.cells) (w : World) :
    (execOp ρ o).run Tryd.prog w = .ok (.value (.bool (eqD d e))) w := by
  unfold execOp
  simp only [ho, hx, hy, Sem.run_bind, run_eqGuard_agg (P := Tryd.prog) w .eql 24 x y d.cells e.cells (by kernel_rfl), Result.andThen_ok, eq_run, Sem.run_pure]
theorem exec_neq {o : Oper} {ρ : Operand → Value} (x y : Operand) (t' : TypeId) (ho : o.op = .binOp .neq 24 x y t') (d e : Deed) (hx : ρ x = .agg d.cells) (hy : ρ y = .agg e.cells) (w : World) :
    (execOp ρ o).run Tryd.prog w = .ok (.value (.bool (!eqD d e))) w := by
  unfold execOp
  simp only [ho, hx, hy, Sem.run_bind, run_eqGuard_agg (P := Tryd.prog) w .neq 24 x y d.cells e.cells (by kernel_rfl), Result.andThen_ok, neq_run, Sem.run_pure]
end Go.Proofs.YtbjmdcjoaapmiaaDoor
