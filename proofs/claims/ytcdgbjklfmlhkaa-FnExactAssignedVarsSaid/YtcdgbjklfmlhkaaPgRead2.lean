/-
  A list of ints as an argument.
-/
import Derived.Test.YtcdgbjklfmlhkaaPgRead
namespace Go.Proofs.Ytcdgbjklfmlhkaa
open Go.ChangeShapes Go.WideShapes Go.ChangeAt Go.RowKit Go.ChangeMaps Num

set_option maxRecDepth 100000 in
theorem ints_arg {H : Type} {enc : TypeId × Value → H} {W : World} {v : Value} {d : DataW H} {ps : List MemPlace} (hok : Value.okWide Try.prog W .any 0 26 v) (h : DataW.Trod enc Try.prog W 0 (fun _ => true) true 26 v d ps) :
    ∃ A0 n cap f, v = .slice A0 n cap ∧ n ≤ maxLen ∧ IntsAt 0 W A0 n f := by
  obtain ⟨A1, n1, c1, rfl⟩ := okWide_slice Try.underlying26 hok
  obtain ⟨fuel, hf⟩ := h
  obtain ⟨A0, n, cap, f, he, hn, hi⟩ := ints_of hf
  simp [Value.cells] at he
  obtain ⟨rfl, rfl, rfl⟩ := he
  exact ⟨A1, n1, c1, f, rfl, hn, hi⟩

end Go.Proofs.Ytcdgbjklfmlhkaa
