/-
  PROVED: the law on SubRat returns true for every two Rats (whatever their texts), in every world in which the call can begin; the arguments and the package's table of one read behind the call as before.
  Conditions: the listed package-level tables (math/bits.deBruijn32tab, math/bits.deBruijn64tab, internal/strconv.uint64pow10, the program's unitBlock) hold what the program's text lays in them (the card ties that to the text); nothing else.
-/
import Derived.Test.YtbcckgofoknmbaaDoorCards
import Derived.Test.YtbcckgofoknmbaaDoorTie
import Derived.Test.YtbcckgofoknmbaaDoorLawSub
import Derived.WalkKit
import Derived.ProofKit
import Derived.OpenShut
import Derived.Lib.SmallJoins
import Derived.Deep.DeepHandedRow
import Derived.Lib.LaidTab
import Derived.Stop.LaidErr
namespace Go.Proofs.YtbcckgofoknmbaaDoor.fnExactSubRat
open Go.ChangeShapes Go.WideShapes Go.ChangeAt Go.RowKit

theorem own : ownKnob Tryd.prog.godebug = none := by kernel_rfl
theorem g32 : Tryd.prog.globalNamed "math/bits.deBruijn32tab" = some 6 := by kernel_rfl
theorem gp : Tryd.prog.globalNamed "internal/strconv.uint64pow10" = some 4 := by kernel_rfl
theorem g64 : Tryd.prog.globalNamed "math/bits.deBruijn64tab" = some 3 := by kernel_rfl
theorem gu : Tryd.prog.globalNamed "loop.example/g00893/impl.unitBlock" = some 0 := by kernel_rfl

def cells7 : Array Value := #[.int .u64 1, .int .u64 0, .int .u64 0, .int .u64 0, .int .u64 0, .int .u64 0, .int .u64 0]

/-- WHAT THE ROW's LIST GIVES. -/
theorem ready {W : World} (h : laidMetH Tryd.prog Rows.fnExactSubRatRow.laid W) : Tab64 W ∧ TabP W ∧ W.var? Tryd.prog "loop.example/g00893/impl.unitBlock" = some cells7 := by
  have h0 : laidMet Tryd.prog [("math/bits.deBruijn32tab", Rows.laid_math_bits_deBruijn32tab), ("math/bits.deBruijn64tab", Rows.laid_math_bits_deBruijn64tab), ("internal/strconv.uint64pow10", Rows.laid_internal_strconv_uint64pow10), ("loop.example/g00893/impl.unitBlock", Rows.laid_loop_example_g00893_impl_unitBlock)] W := h
  have h1 := h0.tail
  have h2 := h1.tail
  have h3 := h2.tail
  have t64 : Lib.TabIs Tryd.prog W "math/bits.deBruijn64tab" .u8 (Lib.deBruijn64tab.map fun n : Nat => (n : Int)) :=
    Lib.tabIs_of_head (rest := [("internal/strconv.uint64pow10", Rows.laid_internal_strconv_uint64pow10), ("loop.example/g00893/impl.unitBlock", Rows.laid_loop_example_g00893_impl_unitBlock)]) g64 (show (Tryd.prog.globals[3]?).map (·.type) = some 126 by kernel_rfl) Tryd.underlying126 Tryd.underlying5 (by kernel_rfl) (by kernel_rfl) h1
  have tp : Lib.TabIs Tryd.prog W "internal/strconv.uint64pow10" .u64 Lib.pow10Tab :=
    Lib.tabIs_of_head (rest := [("loop.example/g00893/impl.unitBlock", Rows.laid_loop_example_g00893_impl_unitBlock)]) gp (show (Tryd.prog.globals[4]?).map (·.type) = some 128 by kernel_rfl) Tryd.underlying128 Tryd.underlying64 (by kernel_rfl) (by kernel_rfl) h2
  have tu : Lib.TabIs Tryd.prog W "loop.example/g00893/impl.unitBlock" .u64 [1, 0, 0, 0, 0, 0, 0] :=
    Lib.tabIs_of_head (rest := []) gu (show (Tryd.prog.globals[0]?).map (·.type) = some 66 by kernel_rfl) Tryd.underlying66 Tryd.underlying64 (by kernel_rfl) (by kernel_rfl) h3
  refine ⟨fun j hj => ?_, tp, tu⟩
  have := t64.cell g64 j (by simpa using hj)
  rw [this]
  congr 2
  simp [List.getD, List.getElem?_map]
  cases Lib.deBruijn64tab[j]? <;> simp

theorem unit_of_var {W : World} (h : W.var? Tryd.prog "loop.example/g00893/impl.unitBlock" = some cells7) : UnitB W := by
  simp only [World.var?, gu, Option.bind_some] at h
  split at h
  · rename_i cs t fr hb
    obtain rfl : cs = cells7 := Option.some.inj h
    exact ⟨t, fr, hb⟩
  · cases h
theorem var_of_unit {W : World} (h : UnitB W) : W.var? Tryd.prog "loop.example/g00893/impl.unitBlock" = some cells7 := by
  obtain ⟨t, fr, hb⟩ := h
  simp only [World.var?, gu, Option.bind_some, hb]
  rfl

abbrev unitH {H : Type} : DataW H := .agg [.lit (.int .u64 1), .lit (.int .u64 0), .lit (.int .u64 0), .lit (.int .u64 0), .lit (.int .u64 0), .lit (.int .u64 0), .lit (.int .u64 0)]
theorem reads_unit {H : Type} (enc : TypeId × Value → H) (W : World) (sp : Nat → Bool) : DataW.trod enc Tryd.prog W 0 sp true 3 66 cells7.toList = some (unitH, []) := by kernel_rfl

set_option maxRecDepth 100000 in
/-- FOR EVERY ARGUMENT AND EVERY WORLD THAT HOLDS THE TABLES. -/
theorem contract (H : Type) (enc : TypeId × Value → H) (W : World) (base : Nat) (args : Array Value) (ds gs : List (DataW H)) (before : List MemPlace)
    (hval : ∀ (j : Nat) t v, Tryd.f3.params[j]? = some t → args[j]? = some v → Value.okWide Tryd.prog W .any base t v)
    (hW : DataW.Whole enc Tryd.prog Tryd.f3.params.toList Rows.fnExactSubRatSpec.vars false W args.toList ds gs before) (hL : laidMetH Tryd.prog Rows.fnExactSubRatRow.laid W) :
    Calls Tryd.prog 3 args W fun e W' => ∃ v, e = .returned v ∧ Rows.fnExactSubRatSpec.post enc Tryd.prog Tryd.f3 false true false false W args v W' := by
  have hW' := hW
  obtain ⟨p, q, hA0, hV0, rfl, hfz, hnd⟩ := hW
  have hA : DataW.TrodAll enc Tryd.prog W 0 (fun _ => true) true Tryd.f3.params.toList args.toList ds p := hA0
  have hV : DataW.TrodVars enc Tryd.prog W (fun _ => true) ["loop.example/g00893/impl.unitBlock"] gs q := hV0
  rw [Tryd.params3] at hA hval
  obtain ⟨hT, hP, hvu⟩ := ready hL
  have hU := unit_of_var hvu
  obtain ⟨v0, v1, d0, d1, p0, p1, rfl, rfl, rfl, h0, h1⟩ := trodAll_two hA
  obtain ⟨c0, c1, c2, y0, y1, y2, m, rfl, rfl, rfl, hy0, hy1, hy2⟩ := Joins.open_agg3 Tryd.underlying23 (by kernel_rfl) (by kernel_rfl) (hval 0 23 v0 rfl rfl) h0
  obtain ⟨b, e0, rfl⟩ := DataW.trod_bool Tryd.underlying4 hy0
  obtain ⟨x, e1, rfl, wx⟩ := DataW.trod_string Tryd.underlying9 hy1
  obtain ⟨y, e2, rfl, wy⟩ := DataW.trod_string Tryd.underlying9 hy2
  simp at e0 e1 e2
  subst e0 e1 e2
  obtain ⟨c3, c4, c5, y3, y4, y5, m', rfl, rfl, rfl, hy3, hy4, hy5⟩ := Joins.open_agg3 Tryd.underlying23 (by kernel_rfl) (by kernel_rfl) (hval 1 23 v1 rfl rfl) h1
  obtain ⟨b', e3, rfl⟩ := DataW.trod_bool Tryd.underlying4 hy3
  obtain ⟨x', e4, rfl, wx'⟩ := DataW.trod_string Tryd.underlying9 hy4
  obtain ⟨y', e5, rfl, wy'⟩ := DataW.trod_string Tryd.underlying9 hy5
  simp at e3 e4 e5
  subst e3 e4 e5
  obtain ⟨g, t, cs, fuel, d, p', rfl, hg, ht, hvar, hd, rfl⟩ := trodVars_one hV
  obtain rfl := Option.some.inj (gu.symm.trans hg)
  obtain rfl : t = 66 := (Option.some.inj ((show (Tryd.prog.globals[0]?).map (·.type) = some 66 by kernel_rfl).symm.trans ht)).symm
  obtain rfl : cs = cells7 := Option.some.inj (hvar.symm.trans hvu)
  obtain ⟨rfl, rfl⟩ := DataW.Trod.unique (v := .agg cells7) ⟨fuel, hd⟩ ⟨3, reads_unit enc W _⟩
  clear hA0 hV0
  refine (lawSub_any b x y b' x' y' W hU hT hP (by unfold maxLen at wx; exact wx) (by unfold maxLen at wy; exact wy) (by unfold maxLen at wx'; exact wx') (by unfold maxLen at wy'; exact wy')).mono fun e W' ⟨he, hB⟩ => ?_
  subst he
  refine ⟨_, rfl, _, _, _, [], [], MemPlace.row ⟨0, 0, none⟩ cells7.size ++ [] ++ [], hW', trodAll_cons_mk (p := []) (shut_bool Tryd.underlying4 _) trodAll_mk0, trodAll_mk2 (Joins.shut_agg3 Tryd.underlying23 (by kernel_rfl) (by kernel_rfl) ⟨1, by simp [DataW.trod, Tryd.underlying4]⟩ ⟨1, by simp [DataW.trod, Tryd.underlying9, wx]⟩ ⟨1, by simp [DataW.trod, Tryd.underlying9, wy]⟩) (Joins.shut_agg3 Tryd.underlying23 (by kernel_rfl) (by kernel_rfl) ⟨1, by simp [DataW.trod, Tryd.underlying4]⟩ ⟨1, by simp [DataW.trod, Tryd.underlying9, wx']⟩ ⟨1, by simp [DataW.trod, Tryd.underlying9, wy']⟩), ?_, hB.frame _, fun h => by cases h⟩
  exact ⟨0, 66, cells7, 3, [], [], gu, by kernel_rfl, var_of_unit (hU.below hB), reads_unit enc W' _, rfl, rfl⟩

/-- A WORLD FOR THE WITNESS: the settled one, with the four tables laid. -/
noncomputable def laidWorld (os : Os) : World :=
  { World.holding Tryd.prog os ⟨#[], #[], []⟩ with heap := (((((World.holding Tryd.prog os ⟨#[], #[], []⟩).heap.modify 6 fun
      | .cells _ t frozen => .cells (Lib.deBruijn32tab.map fun n : Nat => Value.int .u8 (n : Int)).toArray t frozen
      | o => o).modify 3 fun
      | .cells _ t frozen => .cells (Lib.deBruijn64tab.map fun n : Nat => Value.int .u8 (n : Int)).toArray t frozen
      | o => o).modify 4 fun
      | .cells _ t frozen => .cells (Lib.pow10Tab.map fun z => Value.int .u64 z).toArray t frozen
      | o => o).modify 0 fun
      | .cells _ t frozen => .cells cells7 t frozen
      | o => o) }
abbrev arg : Value := .agg #[.bool false, .string ⟨#[]⟩, .string ⟨#[]⟩]
theorem laid_met (os : Os) : laidMet Tryd.prog Rows.fnExactSubRatRow.laid ((laidWorld os).forCall (fun _ _ => 0) ⟨#[], #[arg, arg], []⟩).memory :=
  laidMet_of_run' 8 (by kernel_rfl) (by kernel_rfl)
theorem reads (os : Os) {H : Type} (enc : TypeId × Value → H) : ∃ places, DataW.whole enc Tryd.prog ((laidWorld os).forCall (fun _ _ => 0) ⟨#[], #[arg, arg], []⟩).memory Tryd.f3.params.toList Rows.fnExactSubRatSpec.vars false #[arg, arg].toList 8 = some ([.agg [.lit (.bool false), .lit (.string []), .lit (.string [])], .agg [.lit (.bool false), .lit (.string []), .lit (.string [])]], [unitH], places) :=
  ⟨MemPlace.row ⟨0, 0, none⟩ 7, by kernel_rfl⟩

set_option maxRecDepth 100000 in
theorem lifted (os : Os) (started : os.Started) (H : Type) (enc : TypeId × Value → H) (F : Stop.Interp) :
    ReturnsInHanded {} Tryd.checked os 3 .any ((OpenSpec.ofChange Rows.fnExactSubRatSpec).preRow enc Tryd.prog Tryd.f3 Rows.fnExactSubRatRow.domain false Rows.fnExactSubRatRow.laid) (((OpenSpec.ofChange Rows.fnExactSubRatSpec).at F).post enc Tryd.prog Tryd.f3 false true false false) := by
  obtain ⟨places, hx⟩ := reads os enc
  refine returnsInHanded_of_row (C := Tryd.checked) (s := OpenSpec.ofChange Rows.fnExactSubRatSpec) own started (by kernel_rfl) Tryd.func3
    (witness_row_at (enc := enc) (C := Tryd.checked) false (laidWorld os) #[arg, arg] rfl (by kernel_rfl) (by kernel_rfl) (by kernel_rfl)
      (OpenSpec.preRow_of_cond 8 hx (by kernel_rfl) (fun k hk => by cases hk) (by kernel_rfl) (laid_met os))) ?_
  intro W base args ds gs before hval hW _ _ _ hL _ _
  exact contract H enc W base args ds gs before hval hW hL

theorem said : Rows.FnExactSubRatSaid :=
  OpenClaim.holds_of_cond 3 Tryd.f3 rfl rfl rfl rfl rfl rfl rfl ⟨rfl, rfl, rfl, rfl, rfl⟩ rfl rfl rfl rfl rfl (by kernel_rfl) Tryd.func3 (by kernel_rfl)
    (of_decide_eq_true (by kernel_rfl)) (by unfold Func.isWrapper; first | (rw [if_pos (by decide +kernel)]; kernel_rfl) | (rw [if_neg (by decide +kernel)]; exact ⟨rfl, rfl⟩))
    (fun os started H enc _ F => by rw [OpenClaim.pre_eq_preRow]; exact lifted os started H enc F)

/-- No parameter wants a stand-in; the program's own looks are off. -/
theorem plain (f : FuncId) (fn : Func) (hf : Tryd.pinned.checked.prog.funcNamed "loop.example/g00893/laws.FnExactSubRat" = some f) (hfn : Tryd.pinned.checked.prog.funcs[f]? = some fn) :
    false = Tryd.pinned.checked.prog.looks [] ∧ ∀ (j : Nat) t, fn.params[j]? = some t → Tryd.pinned.checked.prog.wantsStandIn t = false := by
  obtain rfl : f = 3 := Option.some.inj ((show Tryd.prog.funcNamed "loop.example/g00893/laws.FnExactSubRat" = some 3 by kernel_rfl).symm.trans hf) |>.symm
  obtain rfl : fn = Tryd.f3 := (Option.some.inj (Tryd.func3.symm.trans hfn)).symm
  refine ⟨by kernel_rfl, fun j t ht => ?_⟩
  rw [Tryd.params3] at ht
  obtain rfl : t = 23 := by simpa using Array.mem_of_getElem? ht
  exact (show Tryd.prog.wantsStandIn 23 = false by kernel_rfl)

set_option maxRecDepth 100000 in
/-- THE CARD. -/
theorem card : Rows.FnExactSubRatCardSaid :=
  Claim7.holds_tied_plain_at .later [] _ _ _ _ said (fun _ h => by cases h) (by kernel_rfl) (fun _ h => by cases h) fnExactSubRat_row_tie rfl ⟨rfl, rfl⟩ (by kernel_rfl) rfl plain (by kernel_rfl)
end Go.Proofs.YtbcckgofoknmbaaDoor.fnExactSubRat
