/-
  Several texts in one: DgIt, DgAp, DgSo, DgNo.
-/
import Derived.Test.YtamjfcckgeakfaaDgKmU
import Derived.Test.YtamjfcckgeakfaaDgD
import Derived.Sort.MapsRangeIn
import Derived.RangeFuncNested
import Derived.RangeFuncWrites
import Derived.RangeFuncBound
import Derived.RangeFuncCalls
import Derived.RangeFuncLeaves
import Derived.OwnWalkIn
import Derived.Maps.OwnIn
import Derived.TacticsInMore
import Derived.LoopNIn
import Derived.LoopIn
import Derived.BigFrameIn
import Derived.BigGuardPartIn
import Derived.RangeFuncBox
import Derived.Shelf.Abstract
import Derived.Test.YtamjfcckgeakfaaShelf
import Derived.BigQuiet
/-
  Decision diagrams: the keys of the table of different nodes, one after another, and the list of them.
-/
namespace Go.Proofs.Ytamjfcckgeakfaa
open Go.RowKit Num

attribute [local go_sem] Oper.semAt_some

set_option maxHeartbeats 1000000 in
/-- maps.Keys: the map is boxed, the function value captures the box. -/
theorem keysN_in (F : Fence) (n : Nat) (hf : F.fn 97) (hro : F.round = none) (mb : Option Nat) (w : World) :
    CallsIn F n Try.prog 97 #[.map mb] w fun e w' => e = .returned (.func (.func 103) #[] #[.pointer (some ⟨w.heap.size, 0, none⟩)]) ∧ w' = w.alloc (.cells #[.map mb] 119) := by
  refine callsIn_of_wp Try.func97 rfl hf ?_ hro
  simp only [Try.ntmps97, List.size_toArray, List.length_cons, List.length_nil, Nat.reduceAdd, Nat.reduceSub, Array.replicate_succ, Array.replicate_zero, List.push_toArray, List.append_toArray, List.nil_append, List.cons_append]
  gi_wp2
  go_ret
  exact ⟨rfl, rfl⟩

abbrev InN (ns : List Dg.Nd) := { x : Dg.Nd // x ∈ ns }
def encN (x : Dg.Nd) : Array Value := #[ndV x]

/-- What has come, and what is left. -/
def Come (ns : List Dg.Nd) (left : Lit → Bool) (ss : List (InN ns)) : Prop := ss.Nodup ∧ ∀ (x : SN) (h : x.1 ∈ ns), (⟨x.1, h⟩ : InN ns) ∈ ss ↔ left (ndK x) = false

theorem sameKey_self {k : Lit} (h : WideAt.IsKeyLit k) : k.sameKey k = true := by
  have := Maps.has_put_same (D := (DataW.map [] : DataW Unit)) Maps.isMap_empty h (.lit (.bool true))
  by_cases e : k.sameKey k = true
  · exact e
  · exfalso
    have e' : k.sameKey k = false := by simpa using e
    simp [Maps.has, DataW.put, DataW.insert, e'] at this

set_option maxRecDepth 100000 in
theorem ndSelf (x : SN) : (ndK x).sameKey (ndK x) = true := sameKey_self (Maps.Keyed.key ndOk.keyed (ndOk.of x))

theorem Come.step {ns : List Dg.Nd} {left : Lit → Bool} {ss : List (InN ns)} (h : Come ns left ss) {s : SN} (hs : s.1 ∈ ns) (hl : left (ndK s) = true) : Come ns (fun z => left z && !z.sameKey (ndK s)) (ss ++ [⟨s.1, hs⟩]) := by
  have hnew : (⟨s.1, hs⟩ : InN ns) ∉ ss := fun hx => by have := (h.2 s hs).1 hx; rw [hl] at this; cases this
  refine ⟨List.nodup_append.2 ⟨h.1, by simp, fun a ha b hb => by rw [List.mem_singleton] at hb; subst hb; intro e; exact hnew (e ▸ ha)⟩, fun x hx => ?_⟩
  by_cases he : x = s
  · subst he
    show _ ↔ (left (ndK x) && !(ndK x).sameKey (ndK x)) = false
    rw [ndSelf x]
    simp
  · have hne : ndK x ≠ ndK s := fun e => he (ndOk.inj _ _ e)
    rw [List.mem_append, List.mem_singleton]
    have h1 : (⟨x.1, hx⟩ : InN ns) ≠ ⟨s.1, hs⟩ := fun e => he (Subtype.ext (congrArg (fun y : InN ns => y.1) e))
    have h2 : (ndK x).sameKey (ndK s) = false := Maps.sameKey_ne hne
    show _ ↔ (left (ndK x) && !(ndK x).sameKey (ndK s)) = false
    rw [h2]
    simp only [h1, or_false, Bool.not_false, Bool.and_true]
    exact h.2 x hx

theorem Come.perm {ns : List Dg.Nd} {left : Lit → Bool} {ss : List (InN ns)} (h : Come ns left ss) (hn : ns.Nodup) (hsm : ∀ x ∈ ns, Sm x) (hl : ∀ kl, left kl = false) : (ss.map fun x : InN ns => x.1).Perm ns := by
  refine (List.perm_ext_iff_of_nodup ?_ hn).2 fun x => ?_
  · rw [List.nodup_iff_pairwise_ne, List.pairwise_map]
    exact h.1.imp fun hne e => hne (Subtype.ext e)
  · rw [List.mem_map]
    constructor
    · rintro ⟨y, _, rfl⟩; exact y.2
    · intro hx
      exact ⟨⟨x, hx⟩, (h.2 ⟨x, hsm x hx⟩ hx).2 (hl _), rfl⟩

set_option maxRecDepth 100000 in
set_option maxHeartbeats 2000000 in
theorem keys1_in (F : Fence) (n : Nat) (hf : F.fn 103) (hro : F.round = none) (hn : 1 ≤ n) (l Bm m : Nat) (ns : List Dg.Nd) (J Jx : List (InN ns) → World → Prop)
    (hY : ∀ pre (x : InN ns) W, J pre W → pre.length < ns.length → YieldAt F (n - 1) Try.prog l (encN x.1) W fun e W' =>
      (e = .returned (.bool true) ∧ J (pre ++ [x]) W' ∧ KeepsWalks W W') ∨ (e = .returned (.bool false) ∧ Jx (pre ++ [x]) W'))
    (W : World) (hJ : AbidesFrom W.heap.size J) (hm : W.cell? ⟨Bm, 0, none⟩ = some (.map (some m))) (hu : Ut W m ns) (h0 : J [] W) :
    CallsIn F n Try.prog 103 #[.func (.yield l) #[] #[], .pointer (some ⟨Bm, 0, none⟩)] W fun e W' => (∃ v, e = .returned v) ∧
      ((∃ ys : List (InN ns), (ys.map fun x : InN ns => x.1).Perm ns ∧ J ys W') ∨ (∃ pre, True ∧ Jx pre W')) := by
  obtain ⟨hnd, hsm, D, hown, hsz, hat, hks⟩ := hu
  have HJ := Lib.hid hJ; clear hJ
  refine callsIn_of_wp Try.func103 rfl hf ?_ hro
  simp only [Try.ntmps103, List.size_toArray, List.length_cons, List.length_nil, Nat.reduceAdd, Nat.reduceSub, Array.replicate_succ, Array.replicate_zero, List.push_toArray, List.append_toArray, List.nil_append, List.cons_append]
  gi_wp2_with (first
    | (gi_at_range; refine wpListIn_range_own _ rfl _ 119 rfl 86 3 ndOk.keyed ndOk.map _ m ns.length _ rfl hown ?_; intro w0 hrg0 hg0 hs0)
    | gi_in)
  gi_loopw [3] (fun _ wr => ∃ (left : Lit → Bool) (cnt : Nat) (ss : List (InN ns)), wr.ranges Try.prog 86 (plainElem Try.prog 3) m W.heap.size ns.length D left cnt ∧ ss.length + cnt ≤ ns.length ∧ Come ns left ss ∧ J ss wr)
    (fun _ wr => wr.rangeLeft m W.heap.size)
  case atStart =>
    refine ⟨_, _, [], hrg0, by simp [hsz], ⟨by simp, fun x hx => ?_⟩, HJ.out [] W w0 none h0 hg0 (fun r e => by cases e)⟩
    have h1 : Maps.has D (ndK x) = true := by rw [KM.has hat, if_pos hx]; rfl
    rw [h1]; simp
  case round =>
    obtain ⟨left, cnt, ss, hrg, hcs, hC, hJs⟩ := hrel
    gi_wp2_with (first
      | (gi_at_next; refine wpListIn_next_ranges _ rfl _ rfl 86 ndOk.keyed (plainElem Try.prog 3) (fun v : Value => v) id (fun key kl hk => ⟨key, rfl⟩) (fun v _ _ => ⟨v, rfl⟩) m W.heap.size ns.length _ _ _ rfl hrg ?_ ?_)
      | gi_in)
    · intro hc0 hl0
      gi_wp2
      go_end0
      exact ⟨⟨_, rfl⟩, .inl ⟨ss, hC.perm hnd hsm hl0, hJs⟩⟩
    · intro x c kl yd yp w2 cnt2 hkey hlk hv hat2 hrg2 hlt hg2 hs2 hen
      have hhas : Maps.has D kl = true := Maps.has_true_of_atKey hat2
      obtain ⟨s, rfl, hs⟩ := hks kl hhas
      have hsn : s.1 ∈ ns := by
        by_cases h : s.1 ∈ ns
        · exact h
        · rw [if_neg h] at hs; cases hs
      obtain rfl : x = ndV s.1 := Try.lawDg.inj hkey (ndK_eq s)
      have hJ2 : J ss w2 := HJ.out ss wr w2 (some W.heap.size) hJs hg2 (fun r e => by cases e; exact ⟨Nat.le_refl _, hrg.iter_walk⟩)
      have hJ3 := HJ.out ss w2 (w2.alloc (.cells #[.int .i64 (s.1.1 : Nat), .int .i64 (s.1.2.1 : Nat), .int .i64 (s.1.2.2 : Nat)] 86)) none hJ2 (World.grownBy_alloc w2 _ none) (fun r e => by cases e)
      obtain ⟨fn, tmps, assign, body, hy, hR⟩ := hY ss ⟨s.1, hsn⟩ _ hJ3 (by omega)
      have hX := Box.new w2 86 #[.int .i64 (s.1.1 : Nat), .int .i64 (s.1.2.1 : Nat), .int .i64 (s.1.2.2 : Nat)]
      obtain ⟨x0, x1, x2⟩ := hX.trio
      simp only [encN] at hy
      have HR := Lib.hid hR
      have HC := Lib.hid (hC.step hsn hlk)
      have HG := Lib.hid (hrg2.alloc (.cells #[.int .i64 (s.1.1 : Nat), .int .i64 (s.1.2.1 : Nat), .int .i64 (s.1.2.2 : Nat)] 86))
      have HM := Lib.hid (show cnt2 < wr.rangeLeft m W.heap.size by rw [hrg.left_eq]; exact hlt)
      clear hs2 hX hR hJ2 hJ3 hC hJs hrg hrg2 hg2 hhas hs hkey hv hat2
      gi_wp2
      refine HR.out.mono ?_
      rintro e W3 (⟨rfl, hJ4, hk3⟩ | ⟨rfl, hJx3⟩)
      · have hrg3 := HG.out.of_walks hk3
        gi_wp2
        go_roundw
        case rel => exact ⟨_, cnt2, ss ++ [⟨s.1, hsn⟩], hrg3, by simp; omega, HC.out, hJ4⟩
        case measure => rw [hrg3.left_eq]; exact HM.out
      · gi_wp2
        refine bodyPost_ret (results_none rfl _ _ _) rfl ?_
        exact ⟨⟨_, rfl⟩, .inr ⟨_, trivial, hJx3⟩⟩

theorem keys_stops (F : Fence) (n : Nat) (hf : F.fn 103) (hro : F.round = none) (hn : 1 ≤ n) (Bm m : Nat) (ns : List Dg.Nd) (w : World) (hB : Bm < w.heap.size) (hm : w.cell? ⟨Bm, 0, none⟩ = some (.map (some m))) (hu : Ut w m ns) :
    SeqStopsK F n Try.prog 103 #[.pointer (some ⟨Bm, 0, none⟩)] (fun x : InN ns => encN x.1) KeepsWalks (fun ys => (ys.map fun x : InN ns => x.1).Perm ns) (fun _ => True) ns.length w := fun l J Jx W hW hJ _ hY h0 => by
  refine (keys1_in F n hf hro hn l Bm m ns J Jx hY W hJ ((hW.cell (p := ⟨Bm, 0, none⟩) hB).trans hm) (hu.keep (hW.block m hu.lt)) h0).mono ?_
  rintro e W' ⟨he, ⟨ys, hys, hj⟩ | ⟨pre, _, hj⟩⟩
  · exact ⟨he, .inl ⟨_, hys, hj⟩⟩
  · exact ⟨he, .inr ⟨_, trivial, hj⟩⟩

/-- The list under way. -/
def ApI (ns : List Dg.Nd) (w : World) (pre : List (InN ns)) (W : World) : Prop :=
  ∃ v, Box W w.heap.size 26 #[v] ∧ W.ownsRow (w.heap.size + 1) 86 3 v pre.length (cells3 (pre.map fun x : InN ns => x.1)) ∧ Below w.heap.size w W

theorem ApI.own (ns : List Dg.Nd) (w : World) (B0 : Nat) (hB : w.heap.size ≤ B0) : OwnFrom B0 (ApI ns w) := by
  rintro s Wa Wb row ⟨v, h1, h2, h3⟩ hg hr
  refine ⟨v, ?_, ?_, h3.grown hg h3.size fun k e => Nat.le_trans hB (hr k e).1⟩
  · have hne : some w.heap.size ≠ row := by
      intro e
      obtain ⟨_, o, ho, hcl⟩ := hr _ e.symm
      have h' : Wa.heap[w.heap.size]? = some (.cells #[v] 26) := h1
      rw [h'] at ho; cases ho; cases hcl
    exact (hg.block _ h1.lt hne).trans h1
  · refine ⟨h2.1, ?_⟩
    rcases h2.2 with h | ⟨g, cap, cur, e, p3, p4, p5⟩
    · exact .inl h
    · refine .inr ⟨g, cap, cur, e, p3, (hg.block g (heap_lt p4) ?_).trans p4, p5⟩
      intro e'
      obtain ⟨_, o, ho, hcl⟩ := hr g e'.symm
      rw [p4] at ho; cases ho; cases hcl

end Go.Proofs.Ytamjfcckgeakfaa
/-
  Decision diagrams: slices.AppendSeq and slices.Collect of nodes.
-/
namespace Go.Proofs.Ytamjfcckgeakfaa
open Go.RowKit Num Go.Shelf

attribute [local go_sem] Oper.semAt_some

/-- The list is done. -/
def ApPost (ns : List Dg.Nd) (S : List (InN ns) → Prop) (w : World) (e : Ending) (W' : World) : Prop :=
  ∃ (A1 : Option Addr) (c1 : Nat) (xs : List (InN ns)), e = .returned (.slice A1 xs.length c1) ∧ S xs ∧ W'.ownsRow w.heap.size 86 3 (.slice A1 xs.length c1) xs.length (cells3 (xs.map fun x : InN ns => x.1)) ∧ Below w.heap.size w W'

theorem own3_shape {w : World} {base n k : Nat} {t : TypeId} {v : Value} {xs : List Value} (h : w.ownsRow base t k v n xs) : ∃ A c, v = .slice A n c := by
  rcases h.2 with ⟨rfl, h0⟩ | ⟨g, cap, cur, rfl, _⟩
  · exact ⟨none, 0, by rw [h0]⟩
  · exact ⟨_, _, rfl⟩

theorem own3_keep {w w' : World} {base size : Nat} {e : TypeId} {v : Value} {n : Nat} {xs : List Value} (h : w.ownsRow base e size v n xs) (k : ∀ g, v.ownBlock = some g → w'.heap[g]? = w.heap[g]?) : w'.ownsRow base e size v n xs := by
  refine ⟨h.1, ?_⟩
  rcases h.2 with h | ⟨g, cap, cur, rfl, p3, p4, p5⟩
  · exact .inl h
  · exact .inr ⟨g, cap, cur, rfl, p3, (k g rfl).trans p4, p5⟩
theorem own3_low {w : World} {base base' size : Nat} {e : TypeId} {v : Value} {n : Nat} {xs : List Value} (h : w.ownsRow base e size v n xs) (hb : base' ≤ base) : w.ownsRow base' e size v n xs := by
  refine ⟨h.1, ?_⟩
  rcases h.2 with h | ⟨g, cap, cur, rfl, p3, p4, p5⟩
  · exact .inl h
  · exact .inr ⟨g, cap, cur, rfl, Nat.le_trans hb p3, p4, p5⟩
theorem own3_lt {w : World} {base size g : Nat} {e : TypeId} {v : Value} {n : Nat} {xs : List Value} (h : w.ownsRow base e size v n xs) (hg : v.ownBlock = some g) : base ≤ g ∧ g < w.heap.size := by
  rcases h.2 with ⟨rfl, _⟩ | ⟨g', cap, cur, rfl, p3, p4, p5⟩
  · cases hg
  · have : g' = g := by simpa [Value.ownBlock] using hg
    subst this
    exact ⟨p3, heap_lt p4⟩
theorem own3_cells {w : World} {base size : Nat} {e : TypeId} {v : Value} {n : Nat} {xs : List Value} (h : w.ownsRow base e size v n xs) (j : Nat) (o : Obj) (hj : v.ownBlock = some j) (ho : w.heap[j]? = some o) : o.isCells = true := by
  rcases h.2 with ⟨rfl, _⟩ | ⟨g', cap, cur, rfl, p3, p4, p5⟩
  · cases hj
  · have : g' = j := by simpa [Value.ownBlock] using hj
    subst this
    rw [p4] at ho; cases ho; rfl

set_option maxRecDepth 100000 in
set_option maxHeartbeats 4000000 in
theorem appendSeq_in (g : Nat) (lb : Array Value) (eg : ∀ args w, (callFunc g args).run Try.prog w = .ok (.enter g args) w) (ns : List Dg.Nd) (hN : ns.length ≤ 1048576) (S Sp : List (InN ns) → Prop) (w : World)
    (hseq : SeqStopsK Fence.wide 4 Try.prog g lb (fun x : InN ns => encN x.1) KeepsWalks S Sp ns.length w) :
    CallsIn Fence.wide 5 Try.prog 104 #[.slice none 0 0, .func (.func g) #[] lb] w (ApPost ns S w) := by
  have H0 : Hid (ApI ns w [] (w.alloc (.cells #[.slice none 0 0] 26))) := Lib.hid ⟨_, Box.new w _ _, ⟨rfl, .inl ⟨rfl, rfl⟩⟩, (Below.refl _ w).alloc (Nat.le_refl _) _⟩
  obtain ⟨i0, hi, hz0, hz1, hz2⟩ := info_parts Try.infoNodeDg
  have hb0 : Below w.heap.size w (w.alloc (.cells #[.slice none 0 0] 26)) := (Below.refl _ w).alloc (Nat.le_refl _) _
  have hs0 : (w.alloc (.cells #[.slice none 0 0] 26)).heap.size = w.heap.size + 1 := by simp
  refine callsIn_of_wp_marks Try.func104 rfl trivial ?_ rfl
  simp only [Try.ntmps104, List.size_toArray, List.length_cons, List.length_nil, Nat.reduceAdd, Nat.reduceSub, Array.replicate_succ, Array.replicate_zero, List.push_toArray, List.append_toArray, List.nil_append, List.cons_append]
  gi_wp2_with fail
  refine wpIn_rangeFunc_ownH rfl (by omega) (gf := g) (lb := lb) rfl trivial eg hseq walksK_t walksK_b hb0 (fun _ => rfl)
    (ApI ns w)
    (fun _ _ _ => False)
    (ApI.own ns w _ (by rw [hs0]; omega))
    (fun _ _ _ _ _ hs _ _ => hs)
    H0.out
    (fun x a' W => ∃ B, w.heap.size + 1 ≤ B ∧ Box W B 86 #[.int .i64 (x.1.1 : Nat), .int .i64 (x.1.2.1 : Nat), .int .i64 (x.1.2.2 : Nat)] ∧ a' = { tmps := #[.slice none 0 0, .func (.func g) #[] lb, .pointer (some ⟨w.heap.size, 0, none⟩), undef, .slice none 0 0, .pointer (some ⟨B, 0, none⟩), .func (.func g) #[] lb, ndV x.1, undef, undef, undef, undef, undef], defers := [] })
    ?ax ?assign ?body ?done ?stop
  case ax =>
    rintro x a' s Wa Wb row ⟨B, h1, h2, h3⟩ hg hr
    refine ⟨B, h1, ?_, h3⟩
    have hne : some B ≠ row := by
      intro e
      obtain ⟨_, o, ho, hcl⟩ := hr _ e.symm
      have h' : Wa.heap[B]? = some (.cells #[.int .i64 (x.1.1 : Nat), .int .i64 (x.1.2.1 : Nat), .int .i64 (x.1.2.2 : Nat)] 86) := h2
      rw [h'] at ho; cases ho; cases hcl
    exact (hg.block _ h2.lt hne).trans h2
  case assign =>
    intro l pre x W K hI hK
    simp only [encN]
    gi_wp2
    refine hK _ _ ?_ ?_ ?_ ⟨_, ?_, Box.new W _ _, rfl⟩
    · exact (KeepsOthers.alloc W _).from _
    · exact (KeepsOthers.alloc W _).walks
    · obtain ⟨v, h1, h2, h3⟩ := hI
      exact ⟨v, h1.alloc _, own3_keep h2 fun g hg => Below.heap_alloc _ _ g (own3_lt h2 hg).2, h3.alloc h3.size _⟩
    · obtain ⟨v, h1, h2, h3⟩ := hI
      exact h1.lt
  case body =>
    rintro l pre x a' W hl hlr hI ⟨B, hBs, hE, rfl⟩ hlen
    obtain ⟨v, hB, hown, hbel⟩ := hI
    have t0 := hB.cell 0
    obtain ⟨e0, e1, e2⟩ := hE.trio
    have hlt := hB.lt
    have HB := Lib.hid hB
    have HO := Lib.hid hown
    have Hbel := Lib.hid hbel
    clear hl hlr hE hB hown hbel
    gi_wp2_with (first
      | (gi_at_builtin
         refine wpListIn_append_own_at _ rfl _ _ 26 rfl (w.heap.size + 1) 86 i0 (.agg #[.int .i64 0, .int .i64 0, .int .i64 0]) 3 24 Try.underlying26 hi hz0 hz1 hz2 rfl (by decide) _ _ _ rfl (own3_keep HO.out fun g hg => Below.heap_alloc W (.cells #[.int .i64 (x.1.1 : Nat), .int .i64 (x.1.2.1 : Nat), .int .i64 (x.1.2.2 : Nat)] 86) g (own3_lt HO.out hg).2) ⟨W.heap.size, 0, none⟩ 1 1 [.int .i64 (x.1.1 : Nat), .int .i64 (x.1.2.1 : Nat), .int .i64 (x.1.2.2 : Nat)] rfl rfl (cells_three_new W _ _ _ _) (by intro u hu; simp at hu; rcases hu with rfl | rfl | rfl <;> rfl) (by unfold maxLen; omega) (by omega) (by simp; omega) ?_
         intro v' w3 hown' hg3 _ _
         obtain ⟨A2, c2, rfl⟩ := own3_shape hown'
         have hB3 := grown_box hg3 (HB.out.alloc (.cells #[.int .i64 (x.1.1 : Nat), .int .i64 (x.1.2.1 : Nat), .int .i64 (x.1.2.2 : Nat)] 86)) (own3_old HO.out (Nat.lt_succ_self _))
         have k0 := hB3.cell 0
         have k1 := hB3.free 0)
      | gi_in)
    have hk3 : KeepsOthers W w3 := (KeepsOthers.alloc W _).trans (KeepsOthers.of_grownBy hg3 (fun j o hj ho => own3_cells (own3_keep HO.out fun g hg => Below.heap_alloc W _ g (own3_lt HO.out hg).2) j o hj ho))
    have hk4 := hk3.trans (KeepsOthers.setCell w3 ⟨w.heap.size, 0, none⟩ (.slice A2 (pre.length + 1) c2))
    refine ⟨hk4.from _, hk4.walks, .slice A2 (pre.length + 1) c2, hB3.set 0 _, ?_, ?_⟩
    · rw [List.map_append, List.map_cons, List.map_nil, cells3_snoc, List.length_append, List.length_singleton]
      exact own3_keep hown' fun g hg => Below.heap_setCell _ _ _ _ (by have := (own3_lt hown' hg).1; show g ≠ w.heap.size; omega)
    · refine Below.setCell (p := ⟨w.heap.size, 0, none⟩) ?_ (Nat.le_refl _) _
      refine grown_below (Hbel.out.alloc Hbel.out.size _) hg3 (fun k hk => ?_) (by simp; omega)
      have := (own3_lt HO.out hk).1
      show w.heap.size ≤ k
      omega
  case done =>
    intro D xs W hD hxs hI hdef
    obtain ⟨v, hB, hown, hbel⟩ := hI
    obtain ⟨A1, c1, rfl⟩ := own3_shape hown
    have t0 := hB.cell 0
    have HO := Lib.hid hown
    have Hbel := Lib.hid hbel
    have Hdef := Lib.hid hdef
    have HD := Lib.hid hD
    have Hxs := Lib.hid hxs
    have hlt := (Array.getElem?_eq_some_iff.1 hdef).1
    clear hB hown hbel hdef hD hxs
    gi_wp2_with fail
    refine ⟨by simp, .inl ⟨_, _, rfl, run_takeDeferred Hdef.out, ?_⟩⟩
    refine ⟨_, results_tmp rfl _ _ _, A1, c1, xs, rfl, Hxs.out, ?_, ?_⟩
    · refine own3_low (own3_keep HO.out fun g hg => World.putObj_heap_other ?_) (Nat.le_succ _)
      rintro rfl
      have h1 := own3_cells HO.out _ _ hg Hdef.out
      cases h1
    · exact Hbel.out.trans (belowK_b (w := w) (Nat.le_refl _) W D _ _ (by have := HD.out; rw [hs0] at this; omega) Hdef.out rfl rfl)
  case stop =>
    rintro D c pre W _ _ h _
    exact h.elim

set_option maxHeartbeats 1000000 in
theorem collect_in (g : Nat) (lb : Array Value) (eg : ∀ args w, (callFunc g args).run Try.prog w = .ok (.enter g args) w) (ns : List Dg.Nd) (hN : ns.length ≤ 1048576) (S Sp : List (InN ns) → Prop) (w : World)
    (hseq : SeqStopsK Fence.wide 4 Try.prog g lb (fun x : InN ns => encN x.1) KeepsWalks S Sp ns.length w) :
    CallsIn Fence.wide 6 Try.prog 101 #[.func (.func g) #[] lb] w (ApPost ns S w) := by
  have C := appendSeq_in g lb eg ns hN S Sp w hseq
  have hf : Fence.wide.fn 104 := trivial
  refine callsIn_of_wp Try.func101 rfl trivial ?_ rfl
  simp only [Try.ntmps101, List.size_toArray, List.length_cons, List.length_nil, Nat.reduceAdd, Nat.reduceSub, Array.replicate_succ, Array.replicate_zero, List.push_toArray, List.append_toArray, List.nil_append, List.cons_append]
  gi_wp2_with (gi_at_call 104; refine C.mono ?_; rintro e w' ⟨A1, c1, xs, rfl, hS, hrow, hb⟩)
  go_ret
  exact ⟨A1, c1, xs, rfl, hS, hrow, hb⟩

end Go.Proofs.Ytamjfcckgeakfaa
/-
  Decision diagrams: the nodes of a table in the order of their references.
-/
namespace Go.Proofs.Ytamjfcckgeakfaa
open Go.RowKit Num Go.Shelf

def cmpI (x y : Int) : Int := if x < y then -1 else if y < x then 1 else 0

set_option maxRecDepth 100000 in
theorem cmpI_any (x y : Int) (w : World) : Calls Try.prog 99 #[.int .i64 x, .int .i64 y] w fun e w' => e = .returned (.int .i64 (cmpI x y)) ∧ w' = w := by
  have CN : Hid (∀ (z : Int) (W : World), Calls Try.prog 94 #[.int .i64 z] W fun e w' => e = .returned (.bool false) ∧ w' = W) := Lib.hid fun z W => by
    have hz : (z != z) = false := bne_self_eq_false _
    go_enter Try.func94, Try.ntmps94
    go_wp2_with fail
    go_ret
    exact ⟨rfl, rfl⟩
  unfold cmpI
  by_cases h1 : x < y
  · have d1 : decide (x < y) = true := decide_eq_true h1
    rw [if_pos h1]
    clear h1
    go_enter Try.func99, Try.ntmps99
    go_wp2_with (go_at_call 94; refine (CN.out _ _).mono ?_; rintro e w' ⟨rfl, rfl⟩)
    go_ret
    exact ⟨rfl, rfl⟩
  · have d1 : decide (x < y) = false := decide_eq_false h1
    rw [if_neg h1]
    by_cases h2 : y < x
    · have d2 : decide (y < x) = true := decide_eq_true h2
      have d2' : decide (x > y) = true := decide_eq_true h2
      rw [if_pos h2]
      clear h1 h2
      go_enter Try.func99, Try.ntmps99
      go_wp2_with (go_at_call 94; refine (CN.out _ _).mono ?_; rintro e w' ⟨rfl, rfl⟩)
      go_ret
      exact ⟨rfl, rfl⟩
    · have d2 : decide (y < x) = false := decide_eq_false h2
      have d2' : decide (x > y) = false := decide_eq_false h2
      rw [if_neg h2]
      clear h1 h2
      go_enter Try.func99, Try.ntmps99
      go_wp2_with (go_at_call 94; refine (CN.out _ _).mono ?_; rintro e w' ⟨rfl, rfl⟩)
      go_ret
      exact ⟨rfl, rfl⟩

/-- A node's cells. -/
def ndC {ns : List Dg.Nd} (x : InN ns) : List Value := [.int .i64 (x.1.1 : Nat), .int .i64 (x.1.2.1 : Nat), .int .i64 (x.1.2.2 : Nat)]
/-- The order of references. -/
def cfN {ns : List Dg.Nd} (x y : InN ns) : Int := cmpI (ns.idxOf x.1 : Nat) (ns.idxOf y.1 : Nat)
theorem ltN {ns : List Dg.Nd} (x y : InN ns) : ltOf cfN x y = decide (ns.idxOf x.1 < ns.idxOf y.1) := by
  unfold ltOf cfN cmpI
  by_cases h : ns.idxOf x.1 < ns.idxOf y.1
  · rw [if_pos (by omega), decide_eq_true h]; rfl
  · rw [if_neg (by omega), decide_eq_false h]
    split <;> rfl
theorem swoN (ns : List Dg.Nd) : Sort.SWO (ltOf (cfN (ns := ns))) where
  irrefl x := by rw [ltN]; simp
  trans x y z h1 h2 := by rw [ltN, decide_eq_true_eq] at *; omega
  ntrans x y z h1 h2 := by rw [ltN, decide_eq_false_iff_not] at *; omega
theorem idx_inj {ns : List Dg.Nd} {x y : Dg.Nd} (hx : x ∈ ns) (hy : y ∈ ns) (h : ns.idxOf x = ns.idxOf y) : x = y := by
  have h1 := List.getElem_idxOf (List.idxOf_lt_length_of_mem hx)
  have h2 := List.getElem_idxOf (List.idxOf_lt_length_of_mem hy)
  rw [← h1, ← h2]
  congr 1
theorem totN (ns : List Dg.Nd) (x y : InN ns) (h1 : ltOf cfN x y = false) (h2 : ltOf cfN y x = false) : x = y := by
  rw [ltN, decide_eq_false_iff_not] at h1 h2
  exact Subtype.ext (idx_inj x.2 y.2 (by omega))

theorem sortN {ns : List Dg.Nd} (hn : ns.Nodup) {xs : List (InN ns)} (hp : (xs.map fun x : InN ns => x.1).Perm ns) : (xs.mergeSort fun x y => !(ltOf cfN) y x).map (fun x : InN ns => x.1) = ns := by
  have le_iff : ∀ x y : InN ns, (!(ltOf cfN) y x) = true ↔ ns.idxOf x.1 ≤ ns.idxOf y.1 := fun x y => by rw [ltN, Bool.not_eq_true', decide_eq_false_iff_not, Nat.not_lt]
  have h1 : (xs.mergeSort fun x y => !(ltOf cfN) y x).Pairwise fun x y => (!(ltOf cfN) y x) = true :=
    List.pairwise_mergeSort (fun a b c h1 h2 => by rw [le_iff] at *; omega) (fun a b => by rw [Bool.or_eq_true, le_iff, le_iff]; omega) xs
  refine List.Perm.eq_of_pairwise (le := fun a b => ns.idxOf a ≤ ns.idxOf b) (fun a b ha hb h1 h2 => ?_) ?_ ?_ (((List.mergeSort_perm xs _).map _).trans hp)
  · obtain ⟨y, _, rfl⟩ := List.mem_map.1 ha
    exact idx_inj y.2 hb (by omega)
  · rw [List.pairwise_map]
    exact h1.imp fun {a b} h => (le_iff a b).1 h
  · rw [List.pairwise_iff_getElem]
    intro i j hi hj hij
    rw [List.Nodup.idxOf_getElem hn i hi, List.Nodup.idxOf_getElem hn j hj]
    omega

set_option maxRecDepth 100000 in
set_option maxHeartbeats 1600000 in
theorem nodes1_any (Bt m : Nat) (ns : List Dg.Nd) (x y : InN ns) (W : World) (hB : W.cell? ⟨Bt, 0, none⟩ = some (.map (some m))) (hu : Ut W m ns) :
    Calls Try.prog 98 #[.agg #[.int .i64 (x.1.1 : Nat), .int .i64 (x.1.2.1 : Nat), .int .i64 (x.1.2.2 : Nat)], .agg #[.int .i64 (y.1.1 : Nat), .int .i64 (y.1.2.1 : Nat), .int .i64 (y.1.2.2 : Nat)], .pointer (some ⟨Bt, 0, none⟩)] W fun e w' => e = .returned (.int .i64 (cfN x y)) ∧ ∃ q os', w' = Sort.grow (W.drewN q) os' := by
  have hX := (Box.new W 86 #[.int .i64 (x.1.1 : Nat), .int .i64 (x.1.2.1 : Nat), .int .i64 (x.1.2.2 : Nat)]).alloc (.cells #[.int .i64 (y.1.1 : Nat), .int .i64 (y.1.2.1 : Nat), .int .i64 (y.1.2.2 : Nat)] 86)
  have hY := Box.new (W.alloc (.cells #[.int .i64 (x.1.1 : Nat), .int .i64 (x.1.2.1 : Nat), .int .i64 (x.1.2.2 : Nat)] 86)) 86 #[.int .i64 (y.1.1 : Nat), .int .i64 (y.1.2.1 : Nat), .int .i64 (y.1.2.2 : Nat)]
  rw [show (W.alloc (.cells #[.int .i64 (x.1.1 : Nat), .int .i64 (x.1.2.1 : Nat), .int .i64 (x.1.2.2 : Nat)] 86)).heap.size = W.heap.size + 1 by simp] at hY
  have hBl : Bt < W.heap.size := by
    rcases Nat.lt_or_ge Bt W.heap.size with h | h
    · exact h
    · unfold World.cell? at hB; rw [Array.getElem?_eq_none h] at hB; cases hB
  have hb2 := ((Below.refl W.heap.size W).alloc (Nat.le_refl _) (.cells #[.int .i64 (x.1.1 : Nat), .int .i64 (x.1.2.1 : Nat), .int .i64 (x.1.2.2 : Nat)] 86)).alloc (by simp) (.cells #[.int .i64 (y.1.1 : Nat), .int .i64 (y.1.2.1 : Nat), .int .i64 (y.1.2.2 : Nat)] 86)
  have hu2 := hu.keep (hb2.block m hu.lt)
  have hB2 := (hb2.cell (p := ⟨Bt, 0, none⟩) hBl).trans hB
  obtain ⟨W2, hW2⟩ : ∃ W2, W2 = (W.alloc (.cells #[.int .i64 (x.1.1 : Nat), .int .i64 (x.1.2.1 : Nat), .int .i64 (x.1.2.2 : Nat)] 86)).alloc (.cells #[.int .i64 (y.1.1 : Nat), .int .i64 (y.1.2.1 : Nat), .int .i64 (y.1.2.2 : Nat)] 86) := ⟨_, rfl⟩
  rw [← hW2] at hX hY hu2 hB2
  have LX := fun j => hu2.2.2.get ndOk ⟨x.1, hu.2.1 x.1 x.2⟩ (W2.drewN j) rfl
  have LY := fun j => hu2.2.2.get ndOk ⟨y.1, hu.2.1 y.1 y.2⟩ (W2.drewN j) rfl
  dsimp only at LX LY
  rw [if_pos x.2] at LX
  rw [if_pos y.2] at LY
  simp only [Option.getD_some] at LX LY
  obtain ⟨cx, hcx⟩ : ∃ c : Int, c = ((ns.idxOf x.1 + 2 : Nat) : Int) := ⟨_, rfl⟩
  obtain ⟨cy, hcy⟩ : ∃ c : Int, c = ((ns.idxOf y.1 + 2 : Nat) : Int) := ⟨_, rfl⟩
  rw [← hcx] at LX
  rw [← hcy] at LY
  have hr : cmpI cx cy = cfN x y := by
    have q1 : cx < cy ↔ ((ns.idxOf x.1 : Nat) : Int) < (ns.idxOf y.1 : Nat) := by omega
    have q2 : cy < cx ↔ ((ns.idxOf y.1 : Nat) : Int) < (ns.idxOf x.1 : Nat) := by omega
    unfold cfN cmpI
    simp only [q1, q2]
  have CC : ∀ j, Calls Try.prog 99 #[.int .i64 cx, .int .i64 cy] (W2.drewN j) fun e w' => e = .returned (.int .i64 (cfN x y)) ∧ w' = W2.drewN j := fun j => by rw [← hr]; exact cmpI_any _ _ _
  obtain ⟨x0, x1, x2⟩ := hX.trio
  obtain ⟨y0, y1, y2⟩ := hY.trio
  have HG : Hid (∀ q, ∃ q' os', W2.drewN q = Sort.grow (W.drewN q') os') := Lib.hid fun q => ⟨q, _, by rw [hW2, Sort.alloc_eq_grow, Sort.alloc_eq_grow, Sort.grow_grow]; rfl⟩
  clear hcx hcy hr hX hY hu hu2 hb2 hB hBl
  generalize cfN x y = r at CC ⊢
  go_enter Try.func98, Try.ntmps98
  go_upto_region 1 with fail
  rw [← hW2]
  clear hW2
  go_quiet (exact Calls.quiet_of_same (CC _))
  go_wp2_with fail
  go_ret
  exact ⟨rfl, HG.out _⟩

theorem grownBy_sortedK {α : Type} [Inhabited α] (enc : α → List Value) (k : Nat) {w : World} {g n : Nat} {os : Array Obj} (d : Array α) : w.grownBy (sortWorldK enc k w g 0 n d os) (some g) := by
  unfold sortWorldK Sort.putRowK
  refine ⟨rfl, rfl, rfl, by simp, fun k hk hne => ?_⟩
  rw [Sort.heap_grow_old _ _ (by simpa using hk)]
  have : g ≠ k := fun e => hne (by rw [e])
  simp [Sort.putRow, Sort.mapBlock, Sort.ahead, Array.getElem?_modify, this]

end Go.Proofs.Ytamjfcckgeakfaa
/-
  Decision diagrams: the nodes of a table, sorted.
-/
namespace Go.Proofs.Ytamjfcckgeakfaa
open Go.RowKit Num Go.Shelf

theorem heap_sortedK {α : Type} [Inhabited α] (enc : α → List Value) (k : Nat) {w : World} {g n : Nat} {os : Array Obj} {cur : Array Value} {e : TypeId} {fr : Nat × Nat} (d : Array α) (hb : w.heap[g]? = some (.cells cur e fr)) :
    ∃ cs, (sortWorldK enc k w g 0 n d os).heap[g]? = some (.cells cs e fr) := by
  have hg : g < w.heap.size := (Array.getElem?_eq_some_iff.1 hb).1
  unfold sortWorldK Sort.putRowK
  rw [Sort.heap_grow_old _ _ (by simpa using hg)]
  simp [Sort.putRow, Sort.mapBlock, Sort.ahead, Array.getElem?_modify, hb, Sort.onCells]

theorem flat_nf {ns : List Dg.Nd} [Inhabited (InN ns)] (xs : List (InN ns)) (j : Nat) (h : j < xs.length * 3) : (Sort.flatK ndC 3 xs.toArray)[j]! = .int .i64 (nf (xs.map fun x : InN ns => x.1) j) := by
  rw [Sort.get_flatK _ _ _ _ (by simpa using h)]
  have hj : j / 3 < xs.length := by omega
  have e : xs.toArray[j / 3]! = xs[j / 3] := by rw [getElem!_pos _ _ (by simpa using hj)]; rfl
  rw [e]
  have hc : j % 3 = 0 ∨ j % 3 = 1 ∨ j % 3 = 2 := by omega
  unfold nf ndC
  rcases hc with hc | hc | hc <;> rw [hc] <;> simp [List.getD_eq_getElem?_getD, hj]

/-- What the nodes are. -/
def NoPost (ns : List Dg.Nd) (w : World) (e : Ending) (w' : World) : Prop :=
  ∃ A1 c1, e = .returned (.slice A1 ns.length c1) ∧ IntsAt w.heap.size w' A1 (ns.length * 3) (nf ns) ∧ Below w.heap.size w w'

theorem Try.aggDgn (w : World) : (isAgg 86).run Try.prog w = .ok true w := by kernel_rfl
theorem Try.sizeOfDgn (w : World) : (Go.sizeOf 86).run Try.prog w = .ok 3 w := by kernel_rfl

set_option maxRecDepth 100000 in
set_option maxHeartbeats 4000000 in
theorem sortedF_in (Bm Bt m : Nat) (ns : List Dg.Nd) (w : World) (hN : ns.length ≤ 1048576) (hm : w.cell? ⟨Bm, 0, none⟩ = some (.map (some m))) (ht : w.cell? ⟨Bt, 0, none⟩ = some (.map (some m))) (hBm : Bm < w.heap.size) (hBt : Bt < w.heap.size) (hu : Ut w m ns) :
    CallsIn Fence.wide 7 Try.prog 96 #[.func (.func 103) #[] #[.pointer (some ⟨Bm, 0, none⟩)], .func (.func 98) #[] #[.pointer (some ⟨Bt, 0, none⟩)]] w (NoPost ns w) := by
  have C := collect_in 103 #[.pointer (some ⟨Bm, 0, none⟩)] (enters_of Try.func103 (by kernel_rfl) rfl) ns hN _ _ w (keys_stops Fence.wide 4 trivial rfl (by omega) Bm m ns w hBm hm hu)
  have hf : Fence.wide.fn 101 := trivial
  have hf2 : Fence.wide.fn 102 := trivial
  have eg : ∀ args w, (callFunc 98 args).run Try.prog w = .ok (.enter 98 args) w := enters_of Try.func98 (by kernel_rfl) rfl
  refine callsIn_of_wp Try.func96 rfl trivial ?_ rfl
  simp only [Try.ntmps96, List.size_toArray, List.length_cons, List.length_nil, Nat.reduceAdd, Nat.reduceSub, Array.replicate_succ, Array.replicate_zero, List.push_toArray, List.append_toArray, List.nil_append, List.cons_append]
  gi_wp2_with (gi_at_call 101; refine C.mono ?_; rintro e W ⟨A1, c1, xs, rfl, hp, hrow, hb⟩)
  have hlen : xs.length = ns.length := by have := hp.length_eq; rwa [List.length_map] at this
  by_cases h0 : xs.length = 0
  · obtain rfl : xs = [] := List.eq_nil_of_length_eq_zero h0
    have cS := Try.slices_SortFunc_none (α := Nat) A1 c1 (.func (.func 98) #[] #[.pointer (some ⟨Bt, 0, none⟩)]) W
    have cS' := callsIn_wide (n := 6) |>.2 cS
    clear C cS
    have HB := Lib.hid hb
    clear hb
    gi_wp2_with (gi_at_call 102; refine cS'.mono ?_; rintro e w' ⟨rfl, rfl⟩)
    go_ret
    rw [List.length_nil] at hlen
    exact ⟨A1, c1, by rw [← hlen]; rfl, fun h => absurd h (by omega), HB.out⟩
  · rcases hrow.2 with ⟨_, h1⟩ | ⟨g, cap, cur, e1, hbase, hgb, r1, r2, r3, r4⟩
    · exact absurd h1 h0
    · injection e1 with e1 _ e3
      subst e1
      subst e3
      obtain ⟨x0, hx0⟩ : ∃ x0, x0 ∈ xs := ⟨xs[0], List.getElem_mem (by omega)⟩
      have inst : Inhabited (InN ns) := ⟨x0⟩
      have hX : Box W g 86 cur := hgb
      have hH : Sort.HoldsK ndC 3 W g 0 xs.toArray := fun j hj => by
        rw [Sort.size_flatK] at hj
        have hj' : j < xs.length * 3 := by simpa using hj
        refine ⟨?_, hX.free _⟩
        rw [flat_nf xs j hj', Nat.zero_add, hX.cell, ← Array.getElem?_toList]
        have h2 : (cur.toList.take (xs.length * 3))[j]? = (cells3 (xs.map fun x : InN ns => x.1))[j]? := by rw [r4]
        rw [List.getElem?_take, if_pos hj', cells3_get _ j (by rw [List.length_map]; exact hj')] at h2
        exact h2
      have hut : Ut W m ns := hu.keep (hb.block m hu.lt)
      have htt : W.cell? ⟨Bt, 0, none⟩ = some (.map (some m)) := (hb.cell (p := ⟨Bt, 0, none⟩) hBt).trans ht
      have hgm : g ≠ m := by have := hu.lt; omega
      have hgt : g ≠ Bt := by omega
      have hmW : m < W.heap.size := hut.lt
      have hBW : Bt < W.heap.size := Nat.lt_of_lt_of_le hBt hb.size
      have hsz : xs.toArray.size = xs.length := by simp
      have hcmp : CmpLays Try.prog 98 #[.pointer (some ⟨Bt, 0, none⟩)] ndC 3 cfN g 0 xs.toArray.size W := fun q os dk _ x y => by
        have hgr := grownBy_sortedK (enc := ndC (ns := ns)) (k := 3) (w := W) (g := g) (n := q) (os := os) dk
        have h1 : (sortWorldK ndC 3 W g 0 q dk os).cell? ⟨Bt, 0, none⟩ = some (.map (some m)) := (World.cell?_of_block (a := ⟨Bt, 0, none⟩) (hgr.block Bt hBW (by simpa using fun e => hgt e.symm))).trans htt
        have h2 := nodes1_any Bt m ns x y (sortWorldK ndC 3 W g 0 q dk os) h1 (hut.keep (hgr.block m hmW (by simpa using fun e => hgm e.symm)))
        exact h2
      have cS := Try.slices_SortFunc_total 3 Try.aggDgn Try.sizeOfDgn ndC (fun _ => rfl) (fun x v hv => by simp [ndC] at hv; rcases hv with rfl | rfl | rfl <;> rfl) cfN (swoN ns) 98 #[.pointer (some ⟨Bt, 0, none⟩)] g 0 c1 xs.toArray W eg hcmp hH hX.lt (by rw [hsz]; omega) (totN ns)
      have cS' := callsIn_wide (n := 6) |>.2 cS
      rw [hsz] at cS'
      have HP : Hid (∀ n os, NoPost ns w (.returned (.slice (some ⟨g, 0, none⟩) ns.length c1)) (sortWorldK ndC 3 W g 0 n (xs.mergeSort fun x y => !(ltOf cfN) y x).toArray os)) := Lib.hid fun n os => by
        have hgr := grownBy_sortedK (enc := ndC (ns := ns)) (k := 3) (w := W) (g := g) (n := n) (os := os) (xs.mergeSort fun x y => !(ltOf cfN) y x).toArray
        obtain ⟨cs', hcs'⟩ := heap_sortedK (enc := ndC (ns := ns)) (k := 3) (n := n) (os := os) (xs.mergeSort fun x y => !(ltOf cfN) y x).toArray hgb
        have hX' : Box (sortWorldK ndC 3 W g 0 n (xs.mergeSort fun x y => !(ltOf cfN) y x).toArray os) g 86 cs' := hcs'
        have hl2 : (xs.mergeSort fun x y => !(ltOf cfN) y x).length = xs.length := List.length_mergeSort _
        have hH' := SWK.holds (enc := ndC (ns := ns)) (k := 3) (w0 := W) (blk := g) (off := 0) (dk := (xs.mergeSort fun x y => !(ltOf cfN) y x).toArray) ⟨n, os, rfl⟩ hX.lt hH (by simp)
        refine ⟨_, c1, rfl, fun h => ⟨g, 0, rfl, ⟨hbase, hX'.lt, fun _ => hX'.free⟩, fun j hj => ?_⟩, hb.grown hgr hb.size fun k e => by cases e; exact hbase⟩
        have h3 := (hH' j (by rw [Sort.size_flatK]; simp; omega)).1
        rw [flat_nf _ j (by rw [hl2]; omega), sortN hu.1 hp] at h3
        exact h3
      have hS : xs.toArray.toList = xs := by simp
      rw [hS] at cS'
      generalize (xs.mergeSort fun x y => !(ltOf cfN) y x).toArray = Y at cS' HP
      clear C cS hcmp hH hut htt hX hu hrow hb hp hgb r4
      gi_wp2_with (gi_at_call 102; refine cS'.mono ?_; rintro e w' ⟨rfl, n, os, rfl⟩)
      go_ret
      exact HP.out n os

set_option maxHeartbeats 1000000 in
theorem nodes_any (m : Nat) (ns : List Dg.Nd) (w : World) (hN : ns.length ≤ 1048576) (hu : Ut w m ns) : Calls Try.prog 89 #[.map (some m)] w (NoPost ns w) := by
  refine (callsIn_wide (n := 8)).1 ?_
  have hb1 := (Below.refl w.heap.size w).alloc (Nat.le_refl _) (.cells #[.map (some m)] 119)
  have hX := Box.new w 119 #[.map (some m)]
  have hb2 := hb1.alloc hb1.size (.cells #[.map (some m)] 119)
  have hX2 := hX.alloc (.cells #[.map (some m)] 119)
  have hY := Box.new (w.alloc (.cells #[.map (some m)] 119)) 119 #[.map (some m)]
  have cK : ∀ W, CallsIn Fence.wide 7 Try.prog 97 #[.map (some m)] W fun e w' => e = .returned (.func (.func 103) #[] #[.pointer (some ⟨W.heap.size, 0, none⟩)]) ∧ w' = W.alloc (.cells #[.map (some m)] 119) := fun W => keysN_in Fence.wide 7 trivial rfl (some m) W
  have cS := sortedF_in (w.alloc (.cells #[.map (some m)] 119)).heap.size w.heap.size m ns _ hN (hY.cell 0) (hX2.cell 0) hY.lt hX2.lt (hu.keep (hb2.block m hu.lt))
  have hfK : Fence.wide.fn 97 := trivial
  have hfS : Fence.wide.fn 96 := trivial
  have t0 := hX.cell 0
  have HB := Lib.hid hb2
  clear hb1 hX hb2 hX2 hY hu
  refine callsIn_of_wp Try.func89 rfl trivial ?_ rfl
  simp only [Try.ntmps89, List.size_toArray, List.length_cons, List.length_nil, Nat.reduceAdd, Nat.reduceSub, Array.replicate_succ, Array.replicate_zero, List.push_toArray, List.append_toArray, List.nil_append, List.cons_append]
  rw [show (w.alloc (.cells #[.map (some m)] 119)).heap.size = w.heap.size + 1 by simp] at cS
  gi_wp2_with (first
    | (gi_at_call 97; refine (cK _).mono ?_; rintro e w' ⟨rfl, rfl⟩)
    | (gi_at_call 96; refine cS.mono ?_; rintro e w' ⟨A1, c1, rfl, hI, hb⟩))
  go_ret
  exact ⟨A1, c1, rfl, hI.low (by simp; omega), HB.out.trans (hb.mono HB.out.size)⟩

end Go.Proofs.Ytamjfcckgeakfaa
