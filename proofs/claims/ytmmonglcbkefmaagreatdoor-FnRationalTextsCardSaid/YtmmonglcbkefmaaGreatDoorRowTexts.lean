/-
  PROVED: the law on the texts, the powers, the decimals and the sums of drawn Rats returns true for every code, in every world in which the call can begin; the arguments and the package's table of one read behind the call as before.
  Conditions: the listed package-level tables (math/bits.deBruijn32tab, math/bits.deBruijn64tab, internal/strconv.uint64pow10, the program's unitBlock) hold what the program's text lays in them (the card ties that to the text); nothing else.
-/
import Derived.Test.YtmmonglcbkefmaaGreatDoorCards
import Derived.Test.YtmmonglcbkefmaaGreatDoorTie
import Derived.Test.YtmmonglcbkefmaaGreatDoorLawText
import Derived.WalkKit
import Derived.ProofKit
import Derived.OpenShut
import Derived.Lib.SmallJoins
import Derived.Deep.DeepHandedRow
import Derived.Deep.Slices
import Derived.WideKeyArgs
import Derived.ChangeMaps5
import Derived.Lib.LaidTab
import Derived.Stop.LaidErr
namespace Go.Proofs.YtmmonglcbkefmaaGreatDoor.fnRationalTexts
open Go.ChangeShapes Go.WideShapes Go.ChangeAt Go.RowKit Go.ChangeMaps

theorem own : ownKnob Tryz.prog.godebug = none := by kernel_rfl
theorem g32 : Tryz.prog.globalNamed "math/bits.deBruijn32tab" = some 6 := by kernel_rfl
theorem gp : Tryz.prog.globalNamed "internal/strconv.uint64pow10" = some 5 := by kernel_rfl
theorem g64 : Tryz.prog.globalNamed "math/bits.deBruijn64tab" = some 1 := by kernel_rfl
theorem gu : Tryz.prog.globalNamed "loop.example/g00893/impl.unitBlock" = some 0 := by kernel_rfl

def cells7 : Array Value := #[.int .u64 1, .int .u64 0, .int .u64 0, .int .u64 0, .int .u64 0, .int .u64 0, .int .u64 0]

/-- WHAT THE ROW's LIST GIVES. -/
theorem ready {W : World} (h : laidMetH Tryz.prog Rows.fnRationalTextsRow.laid W) : Tab64 W ∧ TabP W ∧ W.var? Tryz.prog "loop.example/g00893/impl.unitBlock" = some cells7 := by
  have h0 : laidMet Tryz.prog [("math/bits.deBruijn32tab", Rows.laid_math_bits_deBruijn32tab), ("math/bits.deBruijn64tab", Rows.laid_math_bits_deBruijn64tab), ("internal/strconv.uint64pow10", Rows.laid_internal_strconv_uint64pow10), ("loop.example/g00893/impl.unitBlock", Rows.laid_loop_example_g00893_impl_unitBlock)] W := h
  have h1 := h0.tail
  have h2 := h1.tail
  have h3 := h2.tail
  have t64 : Lib.TabIs Tryz.prog W "math/bits.deBruijn64tab" .u8 (Lib.deBruijn64tab.map fun n : Nat => (n : Int)) :=
    Lib.tabIs_of_head (rest := [("internal/strconv.uint64pow10", Rows.laid_internal_strconv_uint64pow10), ("loop.example/g00893/impl.unitBlock", Rows.laid_loop_example_g00893_impl_unitBlock)]) g64 (show (Tryz.prog.globals[1]?).map (·.type) = some 174 by kernel_rfl) Tryz.underlying174 Tryz.underlying5 (by kernel_rfl) (by kernel_rfl) h1
  have tp : Lib.TabIs Tryz.prog W "internal/strconv.uint64pow10" .u64 Lib.pow10Tab :=
    Lib.tabIs_of_head (rest := [("loop.example/g00893/impl.unitBlock", Rows.laid_loop_example_g00893_impl_unitBlock)]) gp (show (Tryz.prog.globals[5]?).map (·.type) = some 183 by kernel_rfl) Tryz.underlying183 Tryz.underlying54 (by kernel_rfl) (by kernel_rfl) h2
  have tu : Lib.TabIs Tryz.prog W "loop.example/g00893/impl.unitBlock" .u64 [1, 0, 0, 0, 0, 0, 0] :=
    Lib.tabIs_of_head (rest := []) gu (show (Tryz.prog.globals[0]?).map (·.type) = some 129 by kernel_rfl) Tryz.underlying129 Tryz.underlying54 (by kernel_rfl) (by kernel_rfl) h3
  refine ⟨fun j hj => ?_, tp, tu⟩
  have := t64.cell g64 j (by simpa using hj)
  rw [this]
  congr 2
  simp [List.getD, List.getElem?_map]
  cases Lib.deBruijn64tab[j]? <;> simp

theorem unit_of_var {W : World} (h : W.var? Tryz.prog "loop.example/g00893/impl.unitBlock" = some cells7) : UnitB W := by
  simp only [World.var?, gu, Option.bind_some] at h
  split at h
  · rename_i cs t fr hb
    obtain rfl : cs = cells7 := Option.some.inj h
    exact ⟨t, fr, hb⟩
  · cases h
theorem var_of_unit {W : World} (h : UnitB W) : W.var? Tryz.prog "loop.example/g00893/impl.unitBlock" = some cells7 := by
  obtain ⟨t, fr, hb⟩ := h
  simp only [World.var?, gu, Option.bind_some, hb]
  rfl

abbrev unitH {H : Type} : DataW H := .agg [.lit (.int .u64 1), .lit (.int .u64 0), .lit (.int .u64 0), .lit (.int .u64 0), .lit (.int .u64 0), .lit (.int .u64 0), .lit (.int .u64 0)]
theorem reads_unit {H : Type} (enc : TypeId × Value → H) (W : World) (sp : Nat → Bool) : DataW.trod enc Tryz.prog W 0 sp true 3 129 cells7.toList = some (unitH, []) := by kernel_rfl

theorem at_drop {cs : List Value} {k m : Nat} {v : Value} (hm : m = 1) (h : (cs.drop k).take m = [v]) : cs[k]? = some v := by
  subst hm
  have h1 := congrArg (fun l : List Value => l[0]?) h
  simpa [List.getElem?_take, List.getElem?_drop] using h1

/-- A byte. -/
theorem byte_part {H : Type} {enc : TypeId × Value → H} {W : World} {sp : Nat → Bool} {fuel : Nat} {cs : List Value} {x : DataW H × List MemPlace} (h : DataW.trod enc Tryz.prog W 0 sp true fuel 5 cs = some x) :
    ∃ z : Nat, z ≤ 255 ∧ cs[0]? = some (.int .u8 z) := by
  obtain ⟨n, rfl, _, hw⟩ := DataW.trod_int Tryz.underlying5 h
  simp only [Lit.wf, Bool.and_eq_true, decide_eq_true_eq] at hw
  have h0 : (0 : Int) ≤ n := hw.1
  have h1 : n ≤ 255 := hw.2
  refine ⟨n.toNat, by omega, ?_⟩
  rw [Int.toNat_of_nonneg h0]
  rfl

theorem cell_lt {W : World} {p : Addr} {v : Value} (h : W.cell? p = some v) : p.block < W.heap.size := by
  unfold World.cell? at h
  rcases Nat.lt_or_ge p.block W.heap.size with h' | h'
  · exact h'
  · rw [Array.getElem?_eq_none h'] at h; cases h

set_option maxRecDepth 100000 in
/-- What a reading of a code gives the walk. -/
theorem bytes_of_slice {H : Type} {enc : TypeId × Value → H} {W : World} {v : Value} {d : DataW H} {ps : List MemPlace} (hok : Value.okWide Tryz.prog W .any 0 22 v) (h : DataW.Trod enc Tryz.prog W 0 (fun _ => true) true 22 v d ps) :
    ∃ A0 n cap, v = .slice A0 n cap ∧ n ≤ maxLen ∧ BytesAt W A0 n W.heap.size := by
  obtain ⟨A0, n, cap, rfl⟩ := okWide_slice Tryz.underlying22 hok
  obtain ⟨fuel, hf⟩ := h
  have hc : Tryz.prog.cellsOf 5 = 1 := by kernel_rfl
  rcases Deep.open_slice Tryz.underlying22 hf with ⟨hcs, _⟩ | ⟨a, len, cap', m, k, D, Pl, hcs, _, hl, hm, hmm, hx, hread⟩
  · simp [Value.cells] at hcs
    obtain ⟨rfl, rfl, rfl⟩ := hcs
    exact ⟨none, 0, 0, rfl, Nat.zero_le maxLen, fun h0 => absurd h0 (Nat.lt_irrefl 0)⟩
  · simp [Value.cells] at hcs
    obtain ⟨rfl, rfl, rfl⟩ := hcs
    rw [if_pos rfl] at hmm
    subst hmm
    rw [hc] at hread hx
    have hF : ∀ i, i < n → ∃ z : Nat, z ≤ 255 ∧ W.cell? (a.add i) = some (.int .u8 z) := fun i hi => by
      obtain ⟨cs', h1, h2⟩ := hread i (by omega)
      obtain ⟨_, _, h3⟩ := World.cells?_some h1
      obtain ⟨z, hz, hcz⟩ := byte_part h2
      have h4 := h3 0 (by omega)
      rw [Deep.add_add, Nat.mul_one, Nat.add_zero] at h4
      exact ⟨z, hz, h4.trans hcz⟩
    refine ⟨some a, n, _, rfl, by omega, fun h0 => ?_⟩
    have hsp : a.spot = none := by
      obtain ⟨z, _, h00⟩ := hF 0 h0
      unfold Addr.add World.cell? at h00
      simp only [if_true] at h00
      split at h00
      · split at h00
        · cases h00
        · rename_i hs
          cases hsp : a.spot with
          | none => rfl
          | some q => rw [hsp] at hs; exact absurd rfl hs
      · cases h00
    have hlt : a.block < W.heap.size := by
      obtain ⟨z, _, h00⟩ := hF 0 h0
      have := cell_lt h00
      unfold Addr.add at this
      split at this <;> exact this
    refine ⟨a.block, a.off, ?_, hlt, hlt, fun j hj => ?_⟩
    · cases a; simp only at hsp; subst hsp; rfl
    · obtain ⟨z, hz, h00⟩ := hF j hj
      refine ⟨z, hz, ?_⟩
      rw [← h00]
      unfold Addr.add
      split
      · rename_i hz'
        cases a; simp only at hsp; subst hsp; rw [hz']; rfl
      · rfl

set_option maxRecDepth 100000 in
/-- FOR EVERY ARGUMENT AND EVERY WORLD THAT HOLDS THE TABLES. -/
theorem contract (H : Type) (enc : TypeId × Value → H) (W : World) (base : Nat) (args : Array Value) (ds gs : List (DataW H)) (before : List MemPlace)
    (hval : ∀ (j : Nat) t v, Tryz.f4.params[j]? = some t → args[j]? = some v → Value.okWide Tryz.prog W .any base t v)
    (hW : DataW.Whole enc Tryz.prog Tryz.f4.params.toList Rows.fnRationalTextsSpec.vars false W args.toList ds gs before) (hL : laidMetH Tryz.prog Rows.fnRationalTextsRow.laid W) (hS : W.ShapedOpen Tryz.prog) :
    Calls Tryz.prog 4 args W fun e W' => ∃ v, e = .returned v ∧ Rows.fnRationalTextsSpec.post enc Tryz.prog Tryz.f4 false true false false W args v W' := by
  have hW' := hW
  obtain ⟨p, q, hA0, hV0, rfl, hfz, hnd⟩ := hW
  have hA : DataW.TrodAll enc Tryz.prog W 0 (fun _ => true) true Tryz.f4.params.toList args.toList ds p := hA0
  have hV : DataW.TrodVars enc Tryz.prog W (fun _ => true) ["loop.example/g00893/impl.unitBlock"] gs q := hV0
  rw [Tryz.params4] at hA hval
  obtain ⟨hT, hP, hvu⟩ := ready hL
  have hU := unit_of_var hvu
  obtain ⟨v0, v1, d0, d1, p0, p1, rfl, rfl, rfl, h0, h1⟩ := trodAll_two hA
  obtain ⟨A0, n, cap, rfl, hn, hE⟩ := bytes_of_slice (hval 0 22 v0 rfl rfl) h0
  obtain ⟨A1, n1, cap1, rfl, hn1, hE1⟩ := bytes_of_slice (hval 1 22 v1 rfl rfl) h1
  obtain ⟨m, hm⟩ := Tryz.laysM145.s1_3 W hS
  have hlm := cell_lt hm
  obtain ⟨g, t, cs, fuel, d, p', rfl, hg, ht, hvar, hd, rfl⟩ := trodVars_one hV
  obtain rfl := Option.some.inj (gu.symm.trans hg)
  obtain rfl : t = 129 := (Option.some.inj ((show (Tryz.prog.globals[0]?).map (·.type) = some 129 by kernel_rfl).symm.trans ht)).symm
  obtain rfl : cs = cells7 := Option.some.inj (hvar.symm.trans hvu)
  obtain ⟨rfl, rfl⟩ := DataW.Trod.unique (v := .agg cells7) ⟨fuel, hd⟩ ⟨3, reads_unit enc W _⟩
  clear hA0 hV0
  have hlt : ∀ z ∈ p0, z.block < W.heap.size := fun z hz => hW'.lt z (by simp [hz])
  have hlt1 : ∀ z ∈ p1, z.block < W.heap.size := fun z hz => hW'.lt z (by simp [hz])
  refine (lawTexts_any A0 n cap A1 n1 cap1 W m (by unfold maxLen at hn; exact hn) hE (by unfold maxLen at hn1; exact hn1) hE1 ⟨hU, hT, hP, hlm, hm⟩).mono fun e W' ⟨he, hB⟩ => ?_
  subst he
  refine ⟨_, rfl, _, _, _, [], _, MemPlace.row ⟨0, 0, none⟩ cells7.size ++ [] ++ [], hW', trodAll_cons_mk (p := []) (shut_bool Tryz.underlying4 _) trodAll_mk0, trodAll_mk2 (WideElems.Trod_stays (by kernel_rfl) (by kernel_rfl) (of_decide_eq_true (by kernel_rfl)) h0 (fun p hp => hB.same (hlt p hp)) (fun p hp => decide_eq_true (hlt p hp))) (WideElems.Trod_stays (by kernel_rfl) (by kernel_rfl) (of_decide_eq_true (by kernel_rfl)) h1 (fun p hp => hB.same (hlt1 p hp)) (fun p hp => decide_eq_true (hlt1 p hp))), ?_, hB.frame _, fun h => by cases h⟩
  exact ⟨0, 129, cells7, 3, [], [], gu, by kernel_rfl, var_of_unit (hU.below hB), reads_unit enc W' _, rfl, rfl⟩

/-- A WORLD FOR THE WITNESS: the settled one, with the four tables laid. -/
noncomputable def laidWorld (os : Os) : World :=
  { World.holding Tryz.prog os ⟨#[], #[], []⟩ with heap := (((((World.holding Tryz.prog os ⟨#[], #[], []⟩).heap.modify 6 fun
      | .cells _ t frozen => .cells (Lib.deBruijn32tab.map fun n : Nat => Value.int .u8 (n : Int)).toArray t frozen
      | o => o).modify 1 fun
      | .cells _ t frozen => .cells (Lib.deBruijn64tab.map fun n : Nat => Value.int .u8 (n : Int)).toArray t frozen
      | o => o).modify 5 fun
      | .cells _ t frozen => .cells (Lib.pow10Tab.map fun z => Value.int .u64 z).toArray t frozen
      | o => o).modify 0 fun
      | .cells _ t frozen => .cells cells7 t frozen
      | o => o) }
abbrev arg : Value := .slice none 0 0
theorem laid_met (os : Os) : laidMet Tryz.prog Rows.fnRationalTextsRow.laid ((laidWorld os).forCall (fun _ _ => 0) ⟨#[], #[arg, arg], []⟩).memory :=
  laidMet_of_run' 8 (by kernel_rfl) (by kernel_rfl)
theorem reads (os : Os) {H : Type} (enc : TypeId × Value → H) : ∃ places, DataW.whole enc Tryz.prog ((laidWorld os).forCall (fun _ _ => 0) ⟨#[], #[arg, arg], []⟩).memory Tryz.f4.params.toList Rows.fnRationalTextsSpec.vars false #[arg, arg].toList 8 = some ([.nil, .nil], [unitH], places) :=
  ⟨MemPlace.row ⟨0, 0, none⟩ 7, by kernel_rfl⟩

set_option maxRecDepth 100000 in
theorem lifted (os : Os) (started : os.Started) (H : Type) (enc : TypeId × Value → H) (F : Stop.Interp) :
    ReturnsInHanded {} Tryz.checked os 4 .any ((OpenSpec.ofChange Rows.fnRationalTextsSpec).preRow enc Tryz.prog Tryz.f4 Rows.fnRationalTextsRow.domain false Rows.fnRationalTextsRow.laid) (((OpenSpec.ofChange Rows.fnRationalTextsSpec).at F).post enc Tryz.prog Tryz.f4 false true false false) := by
  obtain ⟨places, hx⟩ := reads os enc
  refine returnsInHanded_of_row (C := Tryz.checked) (s := OpenSpec.ofChange Rows.fnRationalTextsSpec) own started (by kernel_rfl) Tryz.func4
    (witness_row_at (enc := enc) (C := Tryz.checked) false (laidWorld os) #[arg, arg] rfl (by kernel_rfl) (by kernel_rfl) (by kernel_rfl)
      (OpenSpec.preRow_of_cond 8 hx (by kernel_rfl) (fun k hk => by cases hk) (by kernel_rfl) (laid_met os))) ?_
  intro W base args ds gs before hval hW _ _ _ hL hS _
  exact contract H enc W base args ds gs before hval hW hL hS

theorem said : Rows.FnRationalTextsSaid :=
  OpenClaim.holds_of_cond 4 Tryz.f4 rfl rfl rfl rfl rfl rfl rfl ⟨rfl, rfl, rfl, rfl, rfl⟩ rfl rfl rfl rfl rfl (by kernel_rfl) Tryz.func4 (by kernel_rfl)
    (of_decide_eq_true (by kernel_rfl)) (by unfold Func.isWrapper; first | (rw [if_pos (by decide +kernel)]; kernel_rfl) | (rw [if_neg (by decide +kernel)]; exact ⟨rfl, rfl⟩))
    (fun os started H enc _ F => by rw [OpenClaim.pre_eq_preRow]; exact lifted os started H enc F)

/-- No parameter wants a stand-in; the program's own looks are off. -/
theorem plain (f : FuncId) (fn : Func) (hf : Tryz.pinned.checked.prog.funcNamed "loop.example/g00893/laws.FnRationalTexts" = some f) (hfn : Tryz.pinned.checked.prog.funcs[f]? = some fn) :
    false = Tryz.pinned.checked.prog.looks [] ∧ ∀ (j : Nat) t, fn.params[j]? = some t → Tryz.pinned.checked.prog.wantsStandIn t = false := by
  obtain rfl : f = 4 := Option.some.inj ((show Tryz.prog.funcNamed "loop.example/g00893/laws.FnRationalTexts" = some 4 by kernel_rfl).symm.trans hf) |>.symm
  obtain rfl : fn = Tryz.f4 := (Option.some.inj (Tryz.func4.symm.trans hfn)).symm
  refine ⟨by kernel_rfl, fun j t ht => ?_⟩
  rw [Tryz.params4] at ht
  obtain rfl : t = 22 := by simpa using Array.mem_of_getElem? ht
  exact (show Tryz.prog.wantsStandIn 22 = false by kernel_rfl)

set_option maxRecDepth 100000 in
/-- THE CARD. -/
theorem card : Rows.FnRationalTextsCardSaid :=
  Claim7.holds_tied_plain_at .later [] _ _ _ _ said (fun _ h => by cases h) (by kernel_rfl) (fun _ h => by cases h) fnRationalTexts_row_tie rfl ⟨rfl, rfl⟩ (by kernel_rfl) rfl plain (by kernel_rfl)
end Go.Proofs.YtmmonglcbkefmaaGreatDoor.fnRationalTexts
