/-
  PROVED: the law on FormatDist returns true for every Dist (whatever its points, whatever their masses' texts), in every world in which the call can begin; the argument and the package's table of one read behind the call as before. (Written by gen_distlaw.py.)
  Conditions: the listed package-level tables hold what the program's text lays in them (the card ties that to the text); nothing else.
-/
import Derived.Test.YtlfghhmphgidjaaGreatDoorCards
import Derived.Test.YtlfghhmphgidjaaGreatDoorTie
import Derived.Test.YtlfghhmphgidjaaGreatDoorFmtI
import Derived.WalkKit
import Derived.ProofKit
import Derived.OpenShut
import Derived.Lib.SmallJoins
import Derived.Deep.DeepHandedRow
import Derived.Deep.Slices
import Derived.WideKeyArgs
import Derived.ChangeMaps5
import Derived.Lib.LaidTab
import Derived.Stop.LaidErr
namespace Go.Proofs.YtlfghhmphgidjaaGreatDoor.fnExactFormatDist
open Go.ChangeShapes Go.WideShapes Go.ChangeAt Go.RowKit Go.ChangeMaps

theorem own : ownKnob Tryz.prog.godebug = none := by kernel_rfl
theorem g32 : Tryz.prog.globalNamed "math/bits.deBruijn32tab" = some 6 := by kernel_rfl
theorem gp : Tryz.prog.globalNamed "internal/strconv.uint64pow10" = some 4 := by kernel_rfl
theorem g64 : Tryz.prog.globalNamed "math/bits.deBruijn64tab" = some 1 := by kernel_rfl
theorem gu : Tryz.prog.globalNamed "loop.example/g00893/impl.unitBlock" = some 0 := by kernel_rfl

def cells7 : Array Value := #[.int .u64 1, .int .u64 0, .int .u64 0, .int .u64 0, .int .u64 0, .int .u64 0, .int .u64 0]

/-- WHAT THE ROW's LIST GIVES. -/
theorem ready {W : World} (h : laidMetH Tryz.prog Rows.fnExactFormatDistRow.laid W) : Tab64 W ∧ TabP W ∧ W.var? Tryz.prog "loop.example/g00893/impl.unitBlock" = some cells7 := by
  have h0 : laidMet Tryz.prog [("math/bits.deBruijn32tab", Rows.laid_math_bits_deBruijn32tab), ("math/bits.deBruijn64tab", Rows.laid_math_bits_deBruijn64tab), ("internal/strconv.uint64pow10", Rows.laid_internal_strconv_uint64pow10), ("loop.example/g00893/impl.unitBlock", Rows.laid_loop_example_g00893_impl_unitBlock)] W := h
  have h1 := h0.tail
  have h2 := h1.tail
  have h3 := h2.tail
  have t64 : Lib.TabIs Tryz.prog W "math/bits.deBruijn64tab" .u8 (Lib.deBruijn64tab.map fun n : Nat => (n : Int)) :=
    Lib.tabIs_of_head (rest := [("internal/strconv.uint64pow10", Rows.laid_internal_strconv_uint64pow10), ("loop.example/g00893/impl.unitBlock", Rows.laid_loop_example_g00893_impl_unitBlock)]) g64 (show (Tryz.prog.globals[1]?).map (·.type) = some 222 by kernel_rfl) Tryz.underlying222 Tryz.underlying5 (by kernel_rfl) (by kernel_rfl) h1
  have tp : Lib.TabIs Tryz.prog W "internal/strconv.uint64pow10" .u64 Lib.pow10Tab :=
    Lib.tabIs_of_head (rest := [("loop.example/g00893/impl.unitBlock", Rows.laid_loop_example_g00893_impl_unitBlock)]) gp (show (Tryz.prog.globals[4]?).map (·.type) = some 245 by kernel_rfl) Tryz.underlying245 Tryz.underlying143 (by kernel_rfl) (by kernel_rfl) h2
  have tu : Lib.TabIs Tryz.prog W "loop.example/g00893/impl.unitBlock" .u64 [1, 0, 0, 0, 0, 0, 0] :=
    Lib.tabIs_of_head (rest := []) gu (show (Tryz.prog.globals[0]?).map (·.type) = some 172 by kernel_rfl) Tryz.underlying172 Tryz.underlying143 (by kernel_rfl) (by kernel_rfl) h3
  refine ⟨fun j hj => ?_, tp, tu⟩
  have := t64.cell g64 j (by simpa using hj)
  rw [this]
  congr 2
  simp [List.getD, List.getElem?_map]
  cases Lib.deBruijn64tab[j]? <;> simp

theorem unit_of_var {W : World} (h : W.var? Tryz.prog "loop.example/g00893/impl.unitBlock" = some cells7) : UnitB W := by
  simp only [World.var?, gu, Option.bind_some] at h
  split at h
  · rename_i cs t fr hb
    obtain rfl : cs = cells7 := Option.some.inj h
    exact ⟨t, fr, hb⟩
  · cases h
theorem var_of_unit {W : World} (h : UnitB W) : W.var? Tryz.prog "loop.example/g00893/impl.unitBlock" = some cells7 := by
  obtain ⟨t, fr, hb⟩ := h
  simp only [World.var?, gu, Option.bind_some, hb]
  rfl

abbrev unitH {H : Type} : DataW H := .agg [.lit (.int .u64 1), .lit (.int .u64 0), .lit (.int .u64 0), .lit (.int .u64 0), .lit (.int .u64 0), .lit (.int .u64 0), .lit (.int .u64 0)]
theorem reads_unit {H : Type} (enc : TypeId × Value → H) (W : World) (sp : Nat → Bool) : DataW.trod enc Tryz.prog W 0 sp true 3 172 cells7.toList = some (unitH, []) := by kernel_rfl

theorem in_drop {cs : List Value} {k m i : Nat} {v : Value} (h : ((cs.drop k).take m)[i]? = some v) (hi : i < m) : cs[k + i]? = some v := by
  rwa [List.getElem?_take_of_lt hi, List.getElem?_drop] at h

theorem at_drop {cs : List Value} {k m : Nat} {v : Value} (hm : m = 1) (h : (cs.drop k).take m = [v]) : cs[k]? = some v := by
  subst hm
  have h1 := congrArg (fun l : List Value => l[0]?) h
  simpa [List.getElem?_take, List.getElem?_drop] using h1

/-- A point's four parts. -/
theorem pt_parts {H : Type} {enc : TypeId × Value → H} {W : World} {sp : Nat → Bool} {fuel : Nat} {cs : List Value} {x : DataW H × List MemPlace} (h : DataW.trod enc Tryz.prog W 0 sp true fuel 152 cs = some x) :
    ∃ z : Int × Bool × ByteArray × ByteArray, (∀ c, c < 4 → cs[c]? = some (ptC z c)) ∧ z.2.2.1.size ≤ maxLen ∧ z.2.2.2.size ≤ maxLen := by
  obtain ⟨xs, n, _, rfl, hl, hlen, hf⟩ := DataW.trod_struct Tryz.underlying152 h
  have hi : Tryz.prog.cellsOf 3 = 1 := by kernel_rfl
  have hr : Tryz.prog.cellsOf 47 = 3 := by kernel_rfl
  have hb : Tryz.prog.cellsOf 4 = 1 := by kernel_rfl
  have hs : Tryz.prog.cellsOf 9 = 1 := by kernel_rfl
  have h2 : xs.length = 2 := hlen
  have h0 := hf 0 _ rfl
  have h1 := hf 1 _ rfl
  rw [List.getElem?_eq_getElem (by omega)] at h0 h1
  obtain ⟨v, e0, _⟩ := DataW.trod_int Tryz.underlying3 h0
  obtain ⟨ys, m, _, hy, hm, hylen, hg⟩ := DataW.trod_struct Tryz.underlying47 h1
  have h3 : ys.length = 3 := hylen
  have k0 := hg 0 _ rfl
  have k1 := hg 1 _ rfl
  have k2 := hg 2 _ rfl
  rw [List.getElem?_eq_getElem (by omega)] at k0 k1 k2
  obtain ⟨b, f0, _⟩ := DataW.trod_bool Tryz.underlying4 k0
  obtain ⟨x, f1, _, wx⟩ := DataW.trod_string Tryz.underlying9 k1
  obtain ⟨y, f2, _, wy⟩ := DataW.trod_string Tryz.underlying9 k2
  have d0 := at_drop hb f0
  have d1 := at_drop hs f1
  have d2 := at_drop hs f2
  refine ⟨(v, b, x, y), fun c hc => ?_, wx, wy⟩
  match c, hc with
  | 0, _ => exact at_drop hi e0
  | 1, _ => exact in_drop d0 (show 0 < Tryz.prog.cellsOf 47 by rw [hr]; decide)
  | 2, _ => exact in_drop d1 (show 1 < Tryz.prog.cellsOf 47 by rw [hr]; decide)
  | 3, _ => exact in_drop d2 (show 2 < Tryz.prog.cellsOf 47 by rw [hr]; decide)

theorem cell_lt {W : World} {p : Addr} {v : Value} (h : W.cell? p = some v) : p.block < W.heap.size := by
  unfold World.cell? at h
  rcases Nat.lt_or_ge p.block W.heap.size with h' | h'
  · exact h'
  · rw [Array.getElem?_eq_none h'] at h; cases h

set_option maxRecDepth 100000 in
/-- What a reading of the argument gives the walk. -/
theorem pts_of_dist {H : Type} {enc : TypeId × Value → H} {W : World} {v : Value} {dd : DataW H} {ps : List MemPlace} (hok : Value.okWide Tryz.prog W .any 0 24 v) (h : DataW.Trod enc Tryz.prog W 0 (fun _ => true) true 24 v dd ps) :
    ∃ A0 n cap F, v = .agg #[.slice A0 n cap] ∧ n ≤ maxLen ∧ PtAt W A0 n F ∧ ∀ j, j < n → (F j).2.2.1.size ≤ maxLen ∧ (F j).2.2.2.size ≤ maxLen := by
  obtain ⟨cs0, rfl, hsz⟩ := okWide_struct Tryz.underlying24 hok
  have hc1 : Tryz.prog.cellsOf 24 = 1 := by kernel_rfl
  have hs1 : Tryz.prog.cellsOf 22 = 1 := by kernel_rfl
  obtain ⟨v0, rfl⟩ : ∃ v0, cs0 = #[v0] := by
    rw [hc1] at hsz
    obtain ⟨l⟩ := cs0
    match l, hsz with
    | [v0], _ => exact ⟨v0, rfl⟩
  obtain ⟨fuel, hf⟩ := h
  obtain ⟨y0, n0, _, _, hf0⟩ := trod_struct1 Tryz.underlying24 hf
  have hf1 : DataW.trod enc Tryz.prog W 0 (fun _ => true) true n0 22 [v0] = some y0 := by
    rw [← hf0]
    show _ = DataW.trod enc Tryz.prog W 0 (fun _ => true) true n0 22 (([v0].drop 0).take (Tryz.prog.cellsOf 22))
    rw [hs1]; rfl
  have hc : Tryz.prog.cellsOf 152 = 4 := by kernel_rfl
  rcases Deep.open_slice Tryz.underlying22 hf1 with ⟨hcs, _⟩ | ⟨a, n, cap, m, k, D, Pl, hcs, _, hl, hm, hmm, hx, hread⟩
  · injection hcs with hcs _
    subst hcs
    exact ⟨none, 0, 0, fun _ => (0, false, ⟨#[]⟩, ⟨#[]⟩), rfl, Nat.zero_le maxLen, fun h0 => absurd h0 (Nat.lt_irrefl 0), fun j hj => absurd hj (Nat.not_lt_zero j)⟩
  · injection hcs with hcs _
    subst hcs
    rw [if_pos rfl] at hmm
    subst hmm
    rw [hc] at hread hx
    obtain ⟨F, hF'⟩ := Deep.choose_lt (α := Int × Bool × ByteArray × ByteArray) (n := n) (p := fun i z => (∀ c, c < 4 → W.cell? ((a.add (i * 4)).add c) = some (ptC z c)) ∧ z.2.2.1.size ≤ maxLen ∧ z.2.2.2.size ≤ maxLen) (fun i hi => by
      obtain ⟨cs', h1, h2⟩ := hread i (by omega)
      obtain ⟨_, _, h3⟩ := World.cells?_some h1
      obtain ⟨z, hz, zx, zy⟩ := pt_parts h2
      exact ⟨z, fun c hc' => by rw [h3 c hc']; exact hz c hc', zx, zy⟩)
    have hF : ∀ i, i < n → ∀ c, c < 4 → W.cell? ((a.add (i * 4)).add c) = some (ptC (F i) c) := fun i hi => (hF' i hi).1
    refine ⟨some a, n, _, F, rfl, by omega, fun h0 => ?_, fun j hj => (hF' j hj).2⟩
    have hsp : a.spot = none := by
      have h00 := hF 0 h0 0 (by omega)
      rw [Nat.zero_mul, Deep.add_add, Nat.add_zero] at h00
      unfold Addr.add World.cell? at h00
      simp only [if_true] at h00
      split at h00
      · split at h00
        · cases h00
        · rename_i hs
          cases hsp : a.spot with
          | none => rfl
          | some q => rw [hsp] at hs; exact absurd rfl hs
      · cases h00
    refine ⟨a.block, a.off, ?_, ?_, fun j hj c hc' => ?_⟩
    · cases a; simp only at hsp; subst hsp; rfl
    · have h00 := hF 0 h0 0 (by omega)
      rw [Deep.add_add] at h00
      have := cell_lt h00
      unfold Addr.add at this
      split at this <;> exact this
    · have h00 := hF j hj c hc'
      rw [Deep.add_add] at h00
      rw [← h00]
      unfold Addr.add
      split
      · rename_i hz
        cases a; simp only at hsp; subst hsp; rw [hz]; rfl
      · rfl

set_option maxRecDepth 100000 in
/-- FOR EVERY ARGUMENT AND EVERY WORLD THAT HOLDS THE TABLES. -/
theorem contract (H : Type) (enc : TypeId × Value → H) (W : World) (base : Nat) (args : Array Value) (ds gs : List (DataW H)) (before : List MemPlace)
    (hval : ∀ (j : Nat) t v, Tryz.f13.params[j]? = some t → args[j]? = some v → Value.okWide Tryz.prog W .any base t v)
    (hW : DataW.Whole enc Tryz.prog Tryz.f13.params.toList Rows.fnExactFormatDistSpec.vars false W args.toList ds gs before) (hL : laidMetH Tryz.prog Rows.fnExactFormatDistRow.laid W) :
    Calls Tryz.prog 13 args W fun e W' => ∃ v, e = .returned v ∧ Rows.fnExactFormatDistSpec.post enc Tryz.prog Tryz.f13 false true false false W args v W' := by
  have hW' := hW
  obtain ⟨p, q, hA0, hV0, rfl, hfz, hnd⟩ := hW
  have hA : DataW.TrodAll enc Tryz.prog W 0 (fun _ => true) true Tryz.f13.params.toList args.toList ds p := hA0
  have hV : DataW.TrodVars enc Tryz.prog W (fun _ => true) ["loop.example/g00893/impl.unitBlock"] gs q := hV0
  rw [Tryz.params13] at hA hval
  obtain ⟨hT, hP, hvu⟩ := ready hL
  have hU := unit_of_var hvu
  obtain ⟨v0, d0, rfl, rfl, h0⟩ := trodAll_one hA
  obtain ⟨A0, n, cap, F, rfl, hn, hE, hsz⟩ := pts_of_dist (hval 0 24 v0 rfl rfl) h0
  obtain ⟨g, t, cs, fuel, d, p', rfl, hg, ht, hvar, hd, rfl⟩ := trodVars_one hV
  obtain rfl := Option.some.inj (gu.symm.trans hg)
  obtain rfl : t = 172 := (Option.some.inj ((show (Tryz.prog.globals[0]?).map (·.type) = some 172 by kernel_rfl).symm.trans ht)).symm
  obtain rfl : cs = cells7 := Option.some.inj (hvar.symm.trans hvu)
  obtain ⟨rfl, rfl⟩ := DataW.Trod.unique (v := .agg cells7) ⟨fuel, hd⟩ ⟨3, reads_unit enc W _⟩
  clear hA0 hV0
  have hlt : ∀ z ∈ p, z.block < W.heap.size := fun z hz => hW'.lt z (by simp [hz])
  refine (lawFmtD_any A0 n cap F W (by unfold maxLen at hn; exact hn) hE (by unfold maxLen at hsz; exact hsz) hU hT hP).mono fun e W' ⟨he, hB⟩ => ?_
  subst he
  refine ⟨_, rfl, _, _, _, [], _, MemPlace.row ⟨0, 0, none⟩ cells7.size ++ [] ++ [], hW', trodAll_cons_mk (p := []) (shut_bool Tryz.underlying4 _) trodAll_mk0, trodAll_mk1 (WideElems.Trod_stays (by kernel_rfl) (by kernel_rfl) (of_decide_eq_true (by kernel_rfl)) h0 (fun p hp => hB.same (hlt p hp)) (fun p hp => decide_eq_true (hlt p hp))), ?_, hB.frame _, fun h => by cases h⟩
  exact ⟨0, 172, cells7, 3, [], [], gu, by kernel_rfl, var_of_unit (hU.below hB), reads_unit enc W' _, rfl, rfl⟩

/-- A WORLD FOR THE WITNESS: the settled one, with the four tables laid. -/
noncomputable def laidWorld (os : Os) : World :=
  { World.holding Tryz.prog os ⟨#[], #[], []⟩ with heap := (((((World.holding Tryz.prog os ⟨#[], #[], []⟩).heap.modify 6 fun
      | .cells _ t frozen => .cells (Lib.deBruijn32tab.map fun n : Nat => Value.int .u8 (n : Int)).toArray t frozen
      | o => o).modify 1 fun
      | .cells _ t frozen => .cells (Lib.deBruijn64tab.map fun n : Nat => Value.int .u8 (n : Int)).toArray t frozen
      | o => o).modify 4 fun
      | .cells _ t frozen => .cells (Lib.pow10Tab.map fun z => Value.int .u64 z).toArray t frozen
      | o => o).modify 0 fun
      | .cells _ t frozen => .cells cells7 t frozen
      | o => o) }
abbrev arg : Value := .agg #[.slice none 0 0]
theorem laid_met (os : Os) : laidMet Tryz.prog Rows.fnExactFormatDistRow.laid ((laidWorld os).forCall (fun _ _ => 0) ⟨#[], #[arg], []⟩).memory :=
  laidMet_of_run' 8 (by kernel_rfl) (by kernel_rfl)
theorem reads (os : Os) {H : Type} (enc : TypeId × Value → H) : ∃ places, DataW.whole enc Tryz.prog ((laidWorld os).forCall (fun _ _ => 0) ⟨#[], #[arg], []⟩).memory Tryz.f13.params.toList Rows.fnExactFormatDistSpec.vars false #[arg].toList 8 = some ([.agg [.nil]], [unitH], places) :=
  ⟨MemPlace.row ⟨0, 0, none⟩ 7, by kernel_rfl⟩

set_option maxRecDepth 100000 in
theorem lifted (os : Os) (started : os.Started) (H : Type) (enc : TypeId × Value → H) (F : Stop.Interp) :
    ReturnsInHanded {} Tryz.checked os 13 .any ((OpenSpec.ofChange Rows.fnExactFormatDistSpec).preRow enc Tryz.prog Tryz.f13 Rows.fnExactFormatDistRow.domain false Rows.fnExactFormatDistRow.laid) (((OpenSpec.ofChange Rows.fnExactFormatDistSpec).at F).post enc Tryz.prog Tryz.f13 false true false false) := by
  obtain ⟨places, hx⟩ := reads os enc
  refine returnsInHanded_of_row (C := Tryz.checked) (s := OpenSpec.ofChange Rows.fnExactFormatDistSpec) own started (by kernel_rfl) Tryz.func13
    (witness_row_at (enc := enc) (C := Tryz.checked) false (laidWorld os) #[arg] rfl (by kernel_rfl) (by kernel_rfl) (by kernel_rfl)
      (OpenSpec.preRow_of_cond 8 hx (by kernel_rfl) (fun k hk => by cases hk) (by kernel_rfl) (laid_met os))) ?_
  intro W base args ds gs before hval hW _ _ _ hL _ _
  exact contract H enc W base args ds gs before hval hW hL

end Go.Proofs.YtlfghhmphgidjaaGreatDoor.fnExactFormatDist
