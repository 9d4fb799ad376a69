/-
  PROVED: the law on IsValidExprs returns true for every list of expressions and every int, in every world in which the call can begin, and the arguments read behind the call as before.
  Conditions: none.
-/
import Derived.Test.YtpncfhbacdjkcaaRows
import Derived.Test.YtpncfhbacdjkcaaExprs3
import Derived.Deep.Slices
import Derived.WideKeyArgs
import Derived.WalkKit
import Derived.ProofKit
import Derived.OpenShut
import Derived.ChangeMaps5
import Derived.Deep.DeepHandedRow
import Derived.Lib.LaidTab
import Derived.Stop.LaidErr
namespace Go.Proofs.Ytpncfhbacdjkcaa.fnExactIsValidExprs
open Go.ChangeShapes Go.WideShapes Go.ChangeAt Go.RowKit Go.ChangeMaps

theorem at_drop {cs : List Value} {k m : Nat} {z : Int} (hm : m = 1) (h : (cs.drop k).take m = [.int .i64 z]) : cs[k]? = some (.int .i64 z) := by
  subst hm
  have h1 := congrArg (fun l : List Value => l[0]?) h
  simpa [List.getElem?_take, List.getElem?_drop] using h1

/-- An expression's four numbers. -/
theorem four_ints {H : Type} {enc : TypeId × Value → H} {W : World} {sp : Nat → Bool} {fuel : Nat} {cs : List Value} {x : DataW H × List MemPlace} (h : DataW.trod enc Try.prog W 0 sp true fuel 67 cs = some x) :
    ∃ z : Nat → Int, ∀ c, c < 4 → cs[c]? = some (.int .i64 (z c)) := by
  obtain ⟨xs, n, _, rfl, hl, hlen, hf⟩ := DataW.trod_struct Try.underlying67 h
  have hi : Try.prog.cellsOf 3 = 1 := by kernel_rfl
  have h4 : xs.length = 4 := hlen
  have h0 := hf 0 _ rfl
  have h1 := hf 1 _ rfl
  have h2 := hf 2 _ rfl
  have h3 := hf 3 _ rfl
  rw [List.getElem?_eq_getElem (by omega)] at h0 h1 h2 h3
  obtain ⟨z0, e0, _, _⟩ := DataW.trod_int Try.underlying3 h0
  obtain ⟨z1, e1, _, _⟩ := DataW.trod_int Try.underlying3 h1
  obtain ⟨z2, e2, _, _⟩ := DataW.trod_int Try.underlying3 h2
  obtain ⟨z3, e3, _, _⟩ := DataW.trod_int Try.underlying3 h3
  refine ⟨fun c => match c with | 0 => z0 | 1 => z1 | 2 => z2 | _ => z3, fun c hc => ?_⟩
  match c, hc with
  | 0, _ => exact at_drop hi e0
  | 1, _ => exact at_drop hi e1
  | 2, _ => exact at_drop hi e2
  | 3, _ => exact at_drop hi e3

theorem cell_lt {W : World} {p : Addr} {v : Value} (h : W.cell? p = some v) : p.block < W.heap.size := by
  unfold World.cell? at h
  rcases Nat.lt_or_ge p.block W.heap.size with h' | h'
  · exact h'
  · rw [Array.getElem?_eq_none h'] at h; cases h

set_option maxRecDepth 100000 in
/-- What a reading of the list gives the walk. -/
theorem ex_of_slice {H : Type} {enc : TypeId × Value → H} {W : World} {v : Value} {d : DataW H} {ps : List MemPlace} (hok : Value.okWide Try.prog W .any 0 23 v) (h : DataW.Trod enc Try.prog W 0 (fun _ => true) true 23 v d ps) :
    ∃ A0 n cap F, v = .slice A0 n cap ∧ n ≤ maxLen ∧ ExAt W A0 n F := by
  obtain ⟨A0, n, cap, rfl⟩ := okWide_slice Try.underlying23 hok
  obtain ⟨fuel, hf⟩ := h
  have hc : Try.prog.cellsOf 67 = 4 := by kernel_rfl
  rcases Deep.open_slice Try.underlying23 hf with ⟨hcs, _⟩ | ⟨a, len, cap', m, k, D, Pl, hcs, _, hl, hm, hmm, hx, hread⟩
  · simp [Value.cells] at hcs
    obtain ⟨rfl, rfl, rfl⟩ := hcs
    exact ⟨none, 0, 0, fun _ _ => 0, rfl, Nat.zero_le maxLen, fun h0 => absurd h0 (Nat.lt_irrefl 0)⟩
  · simp [Value.cells] at hcs
    obtain ⟨rfl, rfl, rfl⟩ := hcs
    rw [if_pos rfl] at hmm
    subst hmm
    rw [hc] at hread hx
    obtain ⟨F, hF⟩ := Deep.choose_lt (α := Nat → Int) (n := n) (p := fun i z => ∀ c, c < 4 → W.cell? ((a.add (i * 4)).add c) = some (.int .i64 (z c))) (fun i hi => by
      obtain ⟨cs', h1, h2⟩ := hread i (by omega)
      obtain ⟨_, _, h3⟩ := World.cells?_some h1
      obtain ⟨z, hz⟩ := four_ints h2
      exact ⟨z, fun c hc' => by rw [h3 c hc']; exact hz c hc'⟩)
    refine ⟨some a, n, _, F, rfl, by omega, fun h0 => ?_⟩
    have hsp : a.spot = none := by
      have h00 := hF 0 h0 0 (by omega)
      rw [Nat.zero_mul, Deep.add_add, Nat.add_zero] at h00
      unfold Addr.add World.cell? at h00
      simp only [if_true] at h00
      split at h00
      · split at h00
        · cases h00
        · rename_i hs
          cases hsp : a.spot with
          | none => rfl
          | some q => rw [hsp] at hs; exact absurd rfl hs
      · cases h00
    refine ⟨a.block, a.off, ?_, ?_, fun j hj c hc' => ?_⟩
    · cases a; simp only at hsp; subst hsp; rfl
    · have h00 := hF 0 h0 0 (by omega)
      rw [Deep.add_add] at h00
      have := cell_lt h00
      unfold Addr.add at this
      split at this <;> exact this
    · have h00 := hF j hj c hc'
      rw [Deep.add_add] at h00
      rw [← h00]
      unfold Addr.add
      split
      · rename_i hz
        cases a; simp only at hsp; subst hsp; rw [hz]; rfl
      · rfl

theorem own : ownKnob Try.prog.godebug = none := by kernel_rfl

set_option maxRecDepth 100000 in
/-- FOR EVERY ARGUMENT AND EVERY WORLD. -/
theorem contract (H : Type) (enc : TypeId × Value → H) (W : World) (base : Nat) (args : Array Value) (ds gs : List (DataW H)) (before : List MemPlace)
    (hval : ∀ (j : Nat) t v, Try.f4.params[j]? = some t → args[j]? = some v → Value.okWide Try.prog W .any base t v)
    (hW : DataW.Whole enc Try.prog Try.f4.params.toList Rows.fnExactIsValidExprsSpec.vars false W args.toList ds gs before) :
    Calls Try.prog 4 args W fun e W' => ∃ v, e = .returned v ∧ Rows.fnExactIsValidExprsSpec.post enc Try.prog Try.f4 false true false false W args v W' := by
  have hW' := hW
  obtain ⟨p, q, hA0, hV, rfl, hfz, hnd⟩ := hW
  have hA : DataW.TrodAll enc Try.prog W 0 (fun _ => true) true Try.f4.params.toList args.toList ds p := hA0
  rw [Try.params4] at hA hval
  obtain ⟨v0, v1, d0, d1, p0, p1, rfl, rfl, rfl, h0, h1⟩ := trodAll_two hA
  obtain ⟨rfl, rfl⟩ := trodVars_none hV
  obtain ⟨A0, n, cap, F, rfl, hn, hE⟩ := ex_of_slice (hval 0 23 v0 rfl rfl) h0
  obtain ⟨m, rfl, rfl, rfl, wm⟩ := open_int Try.underlying3 (hval 1 3 v1 rfl rfl) h1
  clear hA0
  have hlt : ∀ p ∈ p0, p.block < W.heap.size := fun p hp => hW'.lt p (by simp [hp])
  refine (lawExs_any A0 n cap F m W (by unfold maxLen at hn; exact hn) hE).mono fun e W' ⟨he, hB⟩ => ?_
  subst he
  refine ⟨_, rfl, _, _, _, [], p0 ++ [], [], hW', trodAll_cons_mk (p := []) (shut_bool Try.underlying4 _) trodAll_mk0, trodAll_mk2 (WideElems.Trod_stays (by kernel_rfl) (by kernel_rfl) (of_decide_eq_true (by kernel_rfl)) h0 (fun p hp => hB.same (hlt p hp)) (fun p hp => decide_eq_true (hlt p hp))) (shut_int Try.underlying3 wm), rfl, hB.frame _, fun h => by cases h⟩

/-- A WORLD FOR THE WITNESS: the settled one. -/
noncomputable def laidWorld (os : Os) : World := World.holding Try.prog os ⟨#[], #[], []⟩
theorem laid_met (os : Os) : laidMet Try.prog Rows.fnExactIsValidExprsRow.laid ((laidWorld os).forCall (fun _ _ => 0) ⟨#[], #[.slice none 0 0, .int .i64 1], []⟩).memory :=
  laidMet_of_run' 8 (by kernel_rfl) (by kernel_rfl)
theorem reads (os : Os) {H : Type} (enc : TypeId × Value → H) : ∃ places, DataW.whole enc Try.prog ((laidWorld os).forCall (fun _ _ => 0) ⟨#[], #[.slice none 0 0, .int .i64 1], []⟩).memory Try.f4.params.toList Rows.fnExactIsValidExprsSpec.vars false #[Value.slice none 0 0, Value.int .i64 1].toList 8 = some ([.nil, .lit (.int .i64 1)], [], places) :=
  ⟨[], by kernel_rfl⟩

set_option maxRecDepth 100000 in
theorem lifted (os : Os) (started : os.Started) (H : Type) (enc : TypeId × Value → H) (F : Stop.Interp) :
    ReturnsInHanded {} Try.checked os 4 .any ((OpenSpec.ofChange Rows.fnExactIsValidExprsSpec).preRow enc Try.prog Try.f4 Rows.fnExactIsValidExprsRow.domain false Rows.fnExactIsValidExprsRow.laid) (((OpenSpec.ofChange Rows.fnExactIsValidExprsSpec).at F).post enc Try.prog Try.f4 false true false false) := by
  obtain ⟨places, hx⟩ := reads os enc
  refine returnsInHanded_of_row (C := Try.checked) (s := OpenSpec.ofChange Rows.fnExactIsValidExprsSpec) own started (by kernel_rfl) Try.func4
    (witness_row_at (enc := enc) (C := Try.checked) false (laidWorld os) #[.slice none 0 0, .int .i64 1] rfl (by kernel_rfl) (by kernel_rfl) (by kernel_rfl)
      (OpenSpec.preRow_of_cond 8 hx (by kernel_rfl) (fun k hk => by cases hk) (by kernel_rfl) (laid_met os))) ?_
  intro W base args ds gs before hval hW _ _ _ _ _ _
  exact contract H enc W base args ds gs before hval hW

theorem said : Rows.FnExactIsValidExprsSaid :=
  OpenClaim.holds_of_cond 4 Try.f4 rfl rfl rfl rfl rfl rfl rfl ⟨rfl, rfl, rfl, rfl, rfl⟩ rfl rfl rfl rfl rfl (by kernel_rfl) Try.func4 (by kernel_rfl)
    (of_decide_eq_true (by kernel_rfl)) (by unfold Func.isWrapper; first | (rw [if_pos (by decide +kernel)]; kernel_rfl) | (rw [if_neg (by decide +kernel)]; exact ⟨rfl, rfl⟩))
    (fun os started H enc _ F => by rw [OpenClaim.pre_eq_preRow]; exact lifted os started H enc F)
end Go.Proofs.Ytpncfhbacdjkcaa.fnExactIsValidExprs
