/-
  The program's decimal numeral of a number of at most one word below 10^19: no round of the chunks' loop, none of the range over them.
-/
import Derived.Test.YtlfogpollmagoaaDoorRatF
import Derived.Test.YtlfogpollmagoaaDoorShelf
import Derived.RangeFuncNested
import Derived.RangeFuncWrites
import Derived.Laws.IdiomStrings
import Derived.RangeFuncBound
import Derived.RangeFuncCalls
import Derived.RangeFuncLeaves
import Derived.Shelf.Abstract
import Derived.OwnWalkIn
import Derived.TacticsInMore
import Derived.LoopNIn
import Derived.LoopIn
import Derived.BigFrameIn
import Derived.BigGuardPartIn
namespace Go.Proofs.YtlfogpollmagoaaDoor
open Go.RowKit Num Go.Shelf

attribute [local go_sem] Oper.semAt_some

/-- The table of powers of ten stands in its variable. -/
def TabP (W : World) : Prop := Lib.TabIs Tryd.prog W "internal/strconv.uint64pow10" .u64 Lib.pow10Tab

theorem Tryd.pow10_at : Tryd.prog.globalNamed "internal/strconv.uint64pow10" = some 5 := by kernel_rfl

theorem TabP.block {W : World} (h : TabP W) : 5 < W.heap.size := by
  unfold TabP Lib.TabIs World.var? at h
  simp only [Tryd.pow10_at, Option.bind_some] at h
  rcases Nat.lt_or_ge 5 W.heap.size with hlt | hge
  · exact hlt
  · rw [Array.getElem?_eq_none hge] at h
    simp at h

theorem staysP : Stays TabP := ⟨fun _ _ h hb => var?_below hb Tryd.pow10_at h.block h⟩

theorem decDigits_decL (u : Nat) : Lib.decDigits u = decL u := by
  induction u using Nat.strongRecOn with
  | ind u ih =>
    by_cases h : u < 10
    · rw [Lib.decDigits_one h, decL_small u h]
    · rw [Lib.decDigits, dif_neg h, ih (u / 10) (by omega), ← decL_step u (by omega)]

/-- strconv.AppendUint onto nil, base 10. -/
theorem appendUint_nil (u : Nat) (hu : u < 18446744073709551616) (w : World) (hP : TabP w) :
    Calls Tryd.prog 108 #[.slice none 0 0, .int .u64 u, .int .i64 10] w fun e w' => (∃ v, e = .returned v ∧ w'.ownsRow w.heap.size 5 1 v (decL u).length (Lib.byteCells (decL u))) ∧ Below w.heap.size w w' := by
  have c : Calls Tryd.prog 134 #[.slice none 0 0, .int .u64 u, .int .i64 10] w fun e w' => ∃ v', e = .returned v' ∧ w'.ownsRow w.heap.size 5 1 v' (0 + (Lib.decDigits u).length) ([] ++ Lib.byteCells (Lib.decDigits u)) ∧ Below w.heap.size w w' := by
    by_cases h : u < 100
    · exact (Tryd.internal_strconv_AppendUint_10_small w.heap.size 0 u h _ _ w (World.ownsRow_nil _ _ _ _) (Nat.le_refl _) (by omega)).mono fun e w' ⟨v', h1, h2, h3, _⟩ => ⟨v', h1, h2, h3⟩
    · exact (Tryd.internal_strconv_AppendUint_10_big w.heap.size 0 u (by omega) hu _ _ w (World.ownsRow_nil _ _ _ _) (Nat.le_refl _) (by omega) hP).mono fun e w' ⟨v', h1, h2, h3, _⟩ => ⟨v', h1, h2, h3⟩
  rw [decDigits_decL, Nat.zero_add, List.nil_append] at c
  have C := Lib.hid c; clear c
  clear hu hP
  go_enter Tryd.func108, Tryd.ntmps108
  go_wp2_with (go_at_call 134; refine C.out.mono ?_; rintro e w' ⟨v', rfl, h2, h3⟩)
  go_ret
  exact ⟨⟨_, rfl, h2⟩, h3⟩

set_option maxHeartbeats 1000000 in
/-- slices.Backward: the slice is boxed, the function value captures the box. -/
theorem back_in (F : Fence) (n : Nat) (hf : F.fn 109) (hro : F.round = none) (a : Option Addr) (len cap : Nat) (w : World) :
    CallsIn F n Tryd.prog 109 #[.slice a len cap] w fun e w' => e = .returned (.func (.func 135) #[] #[.pointer (some ⟨w.heap.size, 0, none⟩)]) ∧ w' = w.alloc (.cells #[.slice a len cap] 44) := by
  refine callsIn_of_wp Tryd.func109 rfl hf ?_ hro
  simp only [Tryd.ntmps109, List.size_toArray, List.length_cons, List.length_nil, Nat.reduceAdd, Nat.reduceSub, Array.replicate_succ, Array.replicate_zero, List.push_toArray, List.append_toArray, List.nil_append, List.cons_append]
  gi_wp2
  go_ret
  exact ⟨rfl, rfl⟩

set_option maxRecDepth 100000 in
set_option maxHeartbeats 1000000 in
/-- Its closure at the nil slice: no round. -/
theorem back1_nil_in (F : Fence) (n : Nat) (hf : F.fn 135) (hro : F.round = none) (l Bs : Nat) (J : List (Nat × Nat) → World → Prop) (W : World) (hBs : W.cell? ⟨Bs, 0, none⟩ = some (.slice none 0 0)) (h0 : J [] W) :
    CallsIn F n Tryd.prog 135 #[.func (.yield l) #[] #[], .pointer (some ⟨Bs, 0, none⟩)] W fun e W' => (∃ v, e = .returned v) ∧ J [] W' := by
  refine callsIn_of_wp Tryd.func135 rfl hf ?_ hro
  simp only [Tryd.ntmps135, List.size_toArray, List.length_cons, List.length_nil, Nat.reduceAdd, Nat.reduceSub, Array.replicate_succ, Array.replicate_zero, List.push_toArray, List.append_toArray, List.nil_append, List.cons_append]
  gi_wp2
  gi_loopw [3] (fun i wr => i = .int .i64 (-1) ∧ J [] wr) (fun _ _ => 0)
  case atStart => exact ⟨rfl, h0⟩
  case round =>
    obtain ⟨rfl, hJs⟩ := hrel
    gi_wp2
    go_end0
    exact ⟨⟨_, rfl⟩, hJs⟩

theorem back_stops_nil (F : Fence) (n : Nat) (hf : F.fn 135) (hro : F.round = none) (Bs n₀ : Nat) (w : World) (hBs : Bs < w.heap.size) (hc : w.cell? ⟨Bs, 0, none⟩ = some (.slice none 0 0)) :
    SeqStopsK F n Tryd.prog 135 #[.pointer (some ⟨Bs, 0, none⟩)] (fun x : Nat × Nat => #[Value.int .i64 (x.1 : Int), Value.int .u64 (x.2 : Int)]) (Below n₀) (fun ys => ys = []) (fun _ => False) 0 w := fun l J Jx W hW _ _ hY h0 => by
  have hc' := (hW.cell (p := ⟨Bs, 0, none⟩) hBs).trans hc
  exact (back1_nil_in F n hf hro l Bs J W hc' h0).mono fun e W' ⟨he, hj⟩ => ⟨he, .inl ⟨_, rfl, hj⟩⟩

theorem own_form {w : World} {base : Nat} {e : TypeId} {v : Value} {n : Nat} {xs : List Value} (h : w.ownsRow base e 1 v n xs) (hn : 0 < n) : ∃ g cap, v = .slice (some ⟨g, 0, none⟩) n cap ∧ base ≤ g ∧ g < w.heap.size := by
  rcases h.2 with ⟨_, h0⟩ | ⟨g, cap, cur, rfl, h1, h2, _⟩
  · omega
  · exact ⟨g, cap, rfl, h1, heap_lt h2⟩

theorem decL_pos (n : Nat) : 0 < (decL n).length := by
  unfold decL
  split
  · simp
  · rw [List.length_map, List.length_reverse, length_digs]
    exact lnz (by omega) (by omega)

set_option maxRecDepth 100000 in
set_option maxHeartbeats 2000000 in
theorem decS_in (n b off cap : Nat) (w : World) (hb : b < w.heap.size) (hn : (n : Int) < 10000000000000000000) (hc : w.cell? ⟨b, off, none⟩ = some (.int .u64 n)) (hP : TabP w) :
    CallsIn Fence.wide 5 Tryd.prog 75 #[.slice (some ⟨b, off, none⟩) 1 cap] w fun e W' => e = .returned (.string (dec n)) ∧ Below w.heap.size w W' := by
  have hP' := Lib.hid hP; clear hP
  have hge : decide ((10000000000000000000 : Int) ≤ (n : Int)) = false := by simpa using hn
  have Hn := Lib.hid hn; clear hn
  refine callsIn_of_wp_marks Tryd.func75 rfl trivial ?_ rfl
  simp only [Tryd.ntmps75, List.size_toArray, List.length_cons, List.length_nil, Nat.reduceAdd, Nat.reduceSub, Array.replicate_succ, Array.replicate_zero, List.push_toArray, List.append_toArray, List.nil_append, List.cons_append]
  gi_wp2_with fail
  gi_loopw [0, 3, 4] (fun x c k wr => x = .slice (some ⟨b, off, none⟩) 1 cap ∧ c = .slice none 0 0 ∧ wr = w) (fun _ _ _ _ => 0)
  case atStart => exact ⟨rfl, rfl, rfl⟩
  case round =>
    obtain ⟨rfl, rfl, rfl⟩ := hrel
    gi_wp2_with fail
    refine ⟨trivial, ?_⟩
    refine (callsIn_wide.2 (appendUint_nil n (by have := Hn.out; omega) _ hP'.out)).mono ?_
    rintro e w1 ⟨⟨v1, rfl, hown⟩, hb1⟩
    obtain ⟨g, cap', rfl, hg1, hg2⟩ := own_form hown (decL_pos n)
    gi_wp2_with fail
    refine ⟨trivial, ?_⟩
    refine (back_in Fence.wide _ trivial rfl _ _ _ _).mono ?_
    rintro e w' ⟨rfl, rfl⟩
    gi_wp2_with fail
    have hcells : ∀ j (hj : j < (decL n).length), w1.cell? ((⟨g, 0, none⟩ : Addr).add j) = some (.int .u8 ((decL n)[j].toNat : Int)) := by
      intro j hj
      refine hown.cells (g := g) rfl j _ ?_
      rw [Lib.byteCells, List.getElem?_map, List.getElem?_eq_getElem hj]
      rfl
    have bT := Box.new w1 76 #[.slice (some ⟨g, 0, none⟩) (decL n).length cap']
    have bN := Box.new (w1.alloc (.cells #[.slice (some ⟨g, 0, none⟩) (decL n).length cap'] 76)) 44 #[.slice none 0 0]
    have hB0 : Below w1.heap.size w1 ((w1.alloc (.cells #[.slice (some ⟨g, 0, none⟩) (decL n).length cap'] 76)).alloc (.cells #[.slice none 0 0] 44)) := ((Below.refl _ w1).alloc (Nat.le_refl _) _).alloc (by simp) _
    rw [World.size_alloc] at bN
    have hT1 := (bT.alloc (.cells #[.slice none 0 0] 44)).cell 0
    have hc1 : ∀ j (hj : j < (decL n).length), ((w1.alloc (.cells #[.slice (some ⟨g, 0, none⟩) (decL n).length cap'] 76)).alloc (.cells #[.slice none 0 0] 44)).cell? ((⟨g, 0, none⟩ : Addr).add j) = some (.int .u8 ((decL n)[j].toNat : Int)) := fun j hj =>
      (hB0.cell (p := (⟨g, 0, none⟩ : Addr).add j) (by unfold Addr.add; split <;> exact hg2)).trans (hcells j hj)
    have HG := Lib.hid hge; clear hge
    clear hown hcells
    refine wpIn_rangeFunc_ownG rfl (by omega) (gf := 135) (lb := #[.pointer (some ⟨w1.heap.size + 1, 0, none⟩)]) rfl trivial (enters_of Tryd.func135 (by kernel_rfl) rfl)
      (back_stops_nil Fence.wide (5 - 1) trivial rfl (w1.heap.size + 1) w1.heap.size _ (by simp) (bN.cell 0)) belowK_t (belowK_b (by simp; omega)) (Below.refl _ _) (fun _ => rfl)
      (fun pre W => (W.cell? ⟨w1.heap.size, 0, none⟩ = some (.slice (some ⟨g, 0, none⟩) (decL n).length cap') ∧ ∀ j (hj : j < (decL n).length), W.cell? ((⟨g, 0, none⟩ : Addr).add j) = some (.int .u8 ((decL n)[j].toNat : Int))) ∧ Below w1.heap.size w1 W)
      (fun _ _ _ => False)
      (OwnFrom.and (Own.from (fun s A B row hs hg hr => ⟨cell_kept hs.1 hg hr, fun j hj => cell_kept (hs.2 j hj) hg hr⟩) _) (ownFrom_below (Nat.le_refl _) (by simp; omega)))
      (fun _ _ _ _ _ hs _ _ => hs)
      ⟨⟨hT1, hc1⟩, hB0⟩
      ?a₁ ?assign ?body ?done ?stop
    case assign =>
      intro l x W K hK
      gi_wp2
      exact hK
    case body =>
      intro l pre x W _ hlt
      omega
    case done =>
      rintro D ys W hD rfl ⟨⟨hct, hcs⟩, hB⟩ hK
      have hcv := run_convert_bytes_back (P := Tryd.prog) W 76 9 5 ⟨g, 0, none⟩ cap' (decL n) Tryd.underlying76 Tryd.underlying5 Tryd.underlying9 hcs
      gi_wp2
      refine ⟨by simp, .inl ⟨_, _, rfl, run_takeDeferred hK, ?_⟩⟩
      exact ⟨_, results_tmp rfl _ _ _, rfl, hb1.trans ((hB.trans (belowK_b (w := w1) (Nat.le_refl _) W D _ _ (by simp at hD; omega) hK rfl rfl)).mono hb1.size)⟩
    case stop =>
      rintro D c pre W _ _ h _
      exact h.elim

set_option maxRecDepth 100000 in
set_option maxHeartbeats 2000000 in
theorem decS_zero (A0 : Option Addr) (cap : Nat) (w : World) (hP : TabP w) :
    CallsIn Fence.wide 5 Tryd.prog 75 #[.slice A0 0 cap] w fun e W' => e = .returned (.string (dec 0)) ∧ Below w.heap.size w W' := by
  have hP' := Lib.hid hP; clear hP
  refine callsIn_of_wp_marks Tryd.func75 rfl trivial ?_ rfl
  simp only [Tryd.ntmps75, List.size_toArray, List.length_cons, List.length_nil, Nat.reduceAdd, Nat.reduceSub, Array.replicate_succ, Array.replicate_zero, List.push_toArray, List.append_toArray, List.nil_append, List.cons_append]
  gi_wp2_with fail
  gi_loopw [0, 3, 4] (fun x c k wr => x = .slice A0 0 cap ∧ c = .slice none 0 0 ∧ wr = w) (fun _ _ _ _ => 0)
  case atStart => exact ⟨rfl, rfl, rfl⟩
  case round =>
    obtain ⟨rfl, rfl, rfl⟩ := hrel
    gi_wp2_with fail
    refine ⟨trivial, ?_⟩
    refine (callsIn_wide.2 (appendUint_nil 0 (by omega) _ hP'.out)).mono ?_
    rintro e w1 ⟨⟨v1, rfl, hown⟩, hb1⟩
    obtain ⟨g, cap', rfl, hg1, hg2⟩ := own_form hown (decL_pos 0)
    gi_wp2_with fail
    refine ⟨trivial, ?_⟩
    refine (back_in Fence.wide _ trivial rfl _ _ _ _).mono ?_
    rintro e w' ⟨rfl, rfl⟩
    gi_wp2_with fail
    have hcells : ∀ j (hj : j < (decL 0).length), w1.cell? ((⟨g, 0, none⟩ : Addr).add j) = some (.int .u8 ((decL 0)[j].toNat : Int)) := by
      intro j hj
      refine hown.cells (g := g) rfl j _ ?_
      rw [Lib.byteCells, List.getElem?_map, List.getElem?_eq_getElem hj]
      rfl
    have bT := Box.new w1 76 #[.slice (some ⟨g, 0, none⟩) (decL 0).length cap']
    have bN := Box.new (w1.alloc (.cells #[.slice (some ⟨g, 0, none⟩) (decL 0).length cap'] 76)) 44 #[.slice none 0 0]
    have hB0 : Below w1.heap.size w1 ((w1.alloc (.cells #[.slice (some ⟨g, 0, none⟩) (decL 0).length cap'] 76)).alloc (.cells #[.slice none 0 0] 44)) := ((Below.refl _ w1).alloc (Nat.le_refl _) _).alloc (by simp) _
    rw [World.size_alloc] at bN
    have hT1 := (bT.alloc (.cells #[.slice none 0 0] 44)).cell 0
    have hc1 : ∀ j (hj : j < (decL 0).length), ((w1.alloc (.cells #[.slice (some ⟨g, 0, none⟩) (decL 0).length cap'] 76)).alloc (.cells #[.slice none 0 0] 44)).cell? ((⟨g, 0, none⟩ : Addr).add j) = some (.int .u8 ((decL 0)[j].toNat : Int)) := fun j hj =>
      (hB0.cell (p := (⟨g, 0, none⟩ : Addr).add j) (by unfold Addr.add; split <;> exact hg2)).trans (hcells j hj)
    clear hown hcells
    refine wpIn_rangeFunc_ownG rfl (by omega) (gf := 135) (lb := #[.pointer (some ⟨w1.heap.size + 1, 0, none⟩)]) rfl trivial (enters_of Tryd.func135 (by kernel_rfl) rfl)
      (back_stops_nil Fence.wide (5 - 1) trivial rfl (w1.heap.size + 1) w1.heap.size _ (by simp) (bN.cell 0)) belowK_t (belowK_b (by simp; omega)) (Below.refl _ _) (fun _ => rfl)
      (fun pre W => (W.cell? ⟨w1.heap.size, 0, none⟩ = some (.slice (some ⟨g, 0, none⟩) (decL 0).length cap') ∧ ∀ j (hj : j < (decL 0).length), W.cell? ((⟨g, 0, none⟩ : Addr).add j) = some (.int .u8 ((decL 0)[j].toNat : Int))) ∧ Below w1.heap.size w1 W)
      (fun _ _ _ => False)
      (OwnFrom.and (Own.from (fun s A B row hs hg hr => ⟨cell_kept hs.1 hg hr, fun j hj => cell_kept (hs.2 j hj) hg hr⟩) _) (ownFrom_below (Nat.le_refl _) (by simp; omega)))
      (fun _ _ _ _ _ hs _ _ => hs)
      ⟨⟨hT1, hc1⟩, hB0⟩
      ?a₁ ?assign ?body ?done ?stop
    case assign =>
      intro l x W K hK
      gi_wp2
      exact hK
    case body =>
      intro l pre x W _ hlt
      omega
    case done =>
      rintro D ys W hD rfl ⟨⟨hct, hcs⟩, hB⟩ hK
      have hcv := run_convert_bytes_back (P := Tryd.prog) W 76 9 5 ⟨g, 0, none⟩ cap' (decL 0) Tryd.underlying76 Tryd.underlying5 Tryd.underlying9 hcs
      gi_wp2
      refine ⟨by simp, .inl ⟨_, _, rfl, run_takeDeferred hK, ?_⟩⟩
      exact ⟨_, results_tmp rfl _ _ _, rfl, hb1.trans ((hB.trans (belowK_b (w := w1) (Nat.le_refl _) W D _ _ (by simp at hD; omega) hK rfl rfl)).mono hb1.size)⟩
    case stop =>
      rintro D c pre W _ _ h _
      exact h.elim

/-- The numeral of every number below 10^19. -/
theorem decOf_small (n : Nat) (hn : n < 10000000000000000000) : DecOf TabP n := fun v W hP hv => by
  rcases Nat.eq_zero_or_pos n with rfl | h0
  · obtain ⟨A0, cap, rfl, _, _, _⟩ := RowF.open hv
    exact callsIn_wide.1 (decS_zero A0 cap W hP)
  · have hl : ln WB n = 1 := by
      have h1 := ln_le_of_lt WB n 1 WB_two (by unfold WB; omega)
      have h2 := lnz (b := WB) WB_two h0
      omega
    rcases hv with ⟨_, h⟩ | ⟨b, off, cap, rfl, h1, h2, ⟨cs, h3⟩, h4⟩
    · omega
    · have hc : W.cell? ⟨b, off + 0, none⟩ = some (.int .u64 ((digs WB n).getD 0 0 : Nat)) := h4 0 (by omega)
      have hd : (digs WB n).getD 0 0 = n := by
        show dg WB n 0 = n
        rw [dg_zero WB n WB_two]
        exact Nat.mod_eq_of_lt (by unfold WB; omega)
      rw [hd] at hc
      rw [hl]
      exact callsIn_wide.1 (decS_in n b off cap W (heap_lt h3) (by omega) hc hP)

end Go.Proofs.YtlfogpollmagoaaDoor
