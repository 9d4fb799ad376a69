/-
  PROVED: the statement on TypeErrors, out of what its row's text proves. (Split by hand: a seat of 242 functions.)
-/
import Derived.Test.YtdeilceakhgjlaaGreatRowTErA
import Derived.WalkKit
import Derived.Lib.LaidTab
import Derived.Stop.LaidErr
namespace Go.Proofs.YtdeilceakhgjlaaGreat.fnExactTypeErrors
open Go.ChangeShapes Go.WideShapes Go.ChangeAt Go.RowKit Go.ChangeMaps

theorem named : Tryz.pinned.checked.prog.funcNamed Rows.fnExactTypeErrorsRow.func = some 3 := by kernel_rfl
set_option maxHeartbeats 4000000 in
theorem closed : joinedFacts Tryz.pinned.checked.prog 3 Tryz.f3 (OpenSpec.ofChange Rows.fnExactTypeErrorsSpec).bare Rows.fnExactTypeErrorsRow = true := by
  unfold joinedFacts
  repeat' with_reducible refine (Bool.and_eq_true _ _).mpr ⟨?_, ?_⟩
  all_goals as_aux_lemma => kernel_rfl

theorem said : Rows.FnExactTypeErrorsSaid :=
  OpenClaim.holds_of_cond 3 Tryz.f3 rfl rfl rfl rfl rfl rfl rfl ⟨rfl, rfl, rfl, rfl, rfl⟩ rfl rfl rfl rfl rfl named Tryz.func3 closed
    (of_decide_eq_true (by kernel_rfl)) (by unfold Func.isWrapper; first | (rw [if_pos (by decide +kernel)]; kernel_rfl) | (rw [if_neg (by decide +kernel)]; exact ⟨rfl, rfl⟩))
    (fun os started H enc _ F => by rw [OpenClaim.pre_eq_preRow]; exact lifted os started H enc F)
end Go.Proofs.YtdeilceakhgjlaaGreat.fnExactTypeErrors
