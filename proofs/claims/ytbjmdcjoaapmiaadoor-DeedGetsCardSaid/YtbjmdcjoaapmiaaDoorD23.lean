/- The contract of the reference's Parse: what the program's Parse answers. -/
import Derived.Test.YtbjmdcjoaapmiaaDoorDM3
import Derived.Test.YtbjmdcjoaapmiaaDoorD21
import Derived.Test.YtbjmdcjoaapmiaaDoorD22
namespace Go.Proofs.YtbjmdcjoaapmiaaDoor
open Go.RowKit

theorem refEnd_none {o : Option Deed} (h : o = none) : refEnd o = (zeroD, 3) := by rw [h]; rfl
theorem refEnd_good {o : Option Deed} (d : Deed) (h : o = some d) (hg : goodD d = true) : refEnd o = (d, 0) := by rw [h]; unfold refEnd; simp only [if_pos hg]
theorem refEnd_bad {o : Option Deed} (d : Deed) (h : o = some d) (hg : goodD d = false) : refEnd o = (zeroD, 5) := by rw [h]; unfold refEnd; simp [hg]
theorem parseD_cons {l z : List UInt8} {ws : List (List UInt8)} (hD : wordsGo [] l = z :: ws) (h0 : ¬ opOf z = 0) : parseD l = progEnd (opOf z) ws := by
  unfold parseD
  rw [hD]
  simp only [if_neg h0]
  rfl
theorem RParse_any (s : ByteArray) (hs : s.size ≤ 1000) (w : World) : Calls Tryd.prog 18 #[.string s] w fun e w' => e = .returned (.tuple #[(parseD s.data.toList).1.val, .int .i64 ((parseD s.data.toList).2 : Nat)]) ∧ Below w.heap.size w w' := by
  cases hD : wordsGo [] s.data.toList with
  | nil =>
    have e : parseD s.data.toList = (zeroD, 15) := by unfold parseD; rw [hD]
    rw [e]
    exact RParse_none s hs w hD
  | cons z ws =>
    by_cases h0 : opOf z = 0
    · have e : parseD s.data.toList = (zeroD, 15) := by unfold parseD; rw [hD]; simp only [if_pos h0]
      rw [e]
      exact RParse_word s hs w z ws hD h0
    · rw [parseD_cons hD h0]
      by_cases hl : lenOk (opOf z) (opr (opOf z)).length ws.length = true
      · have he := end_all (opOf z : Int) (opOf_isOp z h0) ws hl
        have hl' : ws.length = (opr (opOf z)).length ∨ (ws.length + 1 = (opr (opOf z)).length ∧ (opOf z : Int) = 2) := by
          unfold lenOk at hl
          simpa [Bool.or_eq_true, Bool.and_eq_true] using hl
        rw [← he]
        rcases hl' with h | ⟨h, h2⟩
        · by_cases h2 : opOf z = 2
          · exact RParse_spawn s hs w z ws hD h0 h h2 _ refEnd_none (fun d => refEnd_good d) (fun d => refEnd_bad d)
          · exact RParse_other s hs w z ws hD h0 h h2 _ refEnd_none (fun d => refEnd_good d) (fun d => refEnd_bad d)
        · have h2' : opOf z = 2 := by omega
          have h5 : (opr (opOf z : Int)).length = 5 := by rw [h2']; rfl
          have h4 : ws.length = 4 := by omega
          have ho : opr (opOf z : Int) = [0, 1, 2, 5, 6] := by rw [h2']; rfl
          rw [ho, ← short_same ws h4]
          exact RParse_short s hs w z ws hD h0 h4 h2' _ refEnd_none (fun d => refEnd_good d) (fun d => refEnd_bad d)
      · have hl' : lenOk (opOf z) (opr (opOf z)).length ws.length = false := by simpa using hl
        have e : progEnd (opOf z) ws = (zeroD, 3) := by unfold progEnd readR; rw [if_neg hl]; rfl
        rw [e]
        exact RParse_form s hs w z ws hD h0 hl'
end Go.Proofs.YtbjmdcjoaapmiaaDoor
