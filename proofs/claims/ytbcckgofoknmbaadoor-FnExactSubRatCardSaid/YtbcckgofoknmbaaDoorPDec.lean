/-
  Several texts in one: DecS, FmtU, DecG.
-/
import Derived.Test.YtbcckgofoknmbaaDoorRatF
import Derived.Test.YtbcckgofoknmbaaDoorShelf
import Derived.RangeFuncNested
import Derived.RangeFuncWrites
import Derived.Laws.IdiomStrings
import Derived.RangeFuncBound
import Derived.RangeFuncCalls
import Derived.RangeFuncLeaves
import Derived.Shelf.Abstract
import Derived.OwnWalkIn
import Derived.TacticsInMore
import Derived.LoopNIn
import Derived.LoopIn
import Derived.BigFrameIn
import Derived.BigGuardPartIn
import Derived.Lib.ItoaWalk
import Derived.Lib.ItoaMem
import Derived.Lib.AppendIntMem
import Derived.Test.YtbcckgofoknmbaaDoorPDiv
import Derived.RangeFuncBox
import Derived.Lib.AppendStr
/-
  The program's decimal numeral of a number of at most one word below 10^19: no round of the chunks' loop, none of the range over them.
-/
namespace Go.Proofs.YtbcckgofoknmbaaDoor
open Go.RowKit Num Go.Shelf

attribute [local go_sem] Oper.semAt_some

/-- The table of powers of ten stands in its variable. -/
def TabP (W : World) : Prop := Lib.TabIs Tryd.prog W "internal/strconv.uint64pow10" .u64 Lib.pow10Tab

theorem Tryd.pow10_at : Tryd.prog.globalNamed "internal/strconv.uint64pow10" = some 4 := by kernel_rfl

theorem TabP.block {W : World} (h : TabP W) : 4 < W.heap.size := by
  unfold TabP Lib.TabIs World.var? at h
  simp only [Tryd.pow10_at, Option.bind_some] at h
  rcases Nat.lt_or_ge 4 W.heap.size with hlt | hge
  · exact hlt
  · rw [Array.getElem?_eq_none hge] at h
    simp at h

theorem staysP : Stays TabP := ⟨fun _ _ h hb => var?_below hb Tryd.pow10_at h.block h⟩

theorem decDigits_decL (u : Nat) : Lib.decDigits u = decL u := by
  induction u using Nat.strongRecOn with
  | ind u ih =>
    by_cases h : u < 10
    · rw [Lib.decDigits_one h, decL_small u h]
    · rw [Lib.decDigits, dif_neg h, ih (u / 10) (by omega), ← decL_step u (by omega)]

/-- strconv.AppendUint onto nil, base 10. -/
theorem appendUint_nil (u : Nat) (hu : u < 18446744073709551616) (w : World) (hP : TabP w) :
    Calls Tryd.prog 41 #[.slice none 0 0, .int .u64 u, .int .i64 10] w fun e w' => (∃ v, e = .returned v ∧ w'.ownsRow w.heap.size 5 1 v (decL u).length (Lib.byteCells (decL u))) ∧ Below w.heap.size w w' := by
  have c : Calls Tryd.prog 62 #[.slice none 0 0, .int .u64 u, .int .i64 10] w fun e w' => ∃ v', e = .returned v' ∧ w'.ownsRow w.heap.size 5 1 v' (0 + (Lib.decDigits u).length) ([] ++ Lib.byteCells (Lib.decDigits u)) ∧ Below w.heap.size w w' := by
    by_cases h : u < 100
    · exact (Tryd.internal_strconv_AppendUint_10_small w.heap.size 0 u h _ _ w (World.ownsRow_nil _ _ _ _) (Nat.le_refl _) (by omega)).mono fun e w' ⟨v', h1, h2, h3, _⟩ => ⟨v', h1, h2, h3⟩
    · exact (Tryd.internal_strconv_AppendUint_10_big w.heap.size 0 u (by omega) hu _ _ w (World.ownsRow_nil _ _ _ _) (Nat.le_refl _) (by omega) hP).mono fun e w' ⟨v', h1, h2, h3, _⟩ => ⟨v', h1, h2, h3⟩
  rw [decDigits_decL, Nat.zero_add, List.nil_append] at c
  have C := Lib.hid c; clear c
  clear hu hP
  go_enter Tryd.func41, Tryd.ntmps41
  go_wp2_with (go_at_call 62; refine C.out.mono ?_; rintro e w' ⟨v', rfl, h2, h3⟩)
  go_ret
  exact ⟨⟨_, rfl, h2⟩, h3⟩

set_option maxHeartbeats 1000000 in
/-- slices.Backward: the slice is boxed, the function value captures the box. -/
theorem back_in (F : Fence) (n : Nat) (hf : F.fn 42) (hro : F.round = none) (a : Option Addr) (len cap : Nat) (w : World) :
    CallsIn F n Tryd.prog 42 #[.slice a len cap] w fun e w' => e = .returned (.func (.func 63) #[] #[.pointer (some ⟨w.heap.size, 0, none⟩)]) ∧ w' = w.alloc (.cells #[.slice a len cap] 40) := by
  refine callsIn_of_wp Tryd.func42 rfl hf ?_ hro
  simp only [Tryd.ntmps42, List.size_toArray, List.length_cons, List.length_nil, Nat.reduceAdd, Nat.reduceSub, Array.replicate_succ, Array.replicate_zero, List.push_toArray, List.append_toArray, List.nil_append, List.cons_append]
  gi_wp2
  go_ret
  exact ⟨rfl, rfl⟩

set_option maxRecDepth 100000 in
set_option maxHeartbeats 1000000 in
/-- Its closure at the nil slice: no round. -/
theorem back1_nil_in (F : Fence) (n : Nat) (hf : F.fn 63) (hro : F.round = none) (l Bs : Nat) (J : List (Nat × Nat) → World → Prop) (W : World) (hBs : W.cell? ⟨Bs, 0, none⟩ = some (.slice none 0 0)) (h0 : J [] W) :
    CallsIn F n Tryd.prog 63 #[.func (.yield l) #[] #[], .pointer (some ⟨Bs, 0, none⟩)] W fun e W' => (∃ v, e = .returned v) ∧ J [] W' := by
  refine callsIn_of_wp Tryd.func63 rfl hf ?_ hro
  simp only [Tryd.ntmps63, List.size_toArray, List.length_cons, List.length_nil, Nat.reduceAdd, Nat.reduceSub, Array.replicate_succ, Array.replicate_zero, List.push_toArray, List.append_toArray, List.nil_append, List.cons_append]
  gi_wp2
  gi_loopw [3] (fun i wr => i = .int .i64 (-1) ∧ J [] wr) (fun _ _ => 0)
  case atStart => exact ⟨rfl, h0⟩
  case round =>
    obtain ⟨rfl, hJs⟩ := hrel
    gi_wp2
    go_end0
    exact ⟨⟨_, rfl⟩, hJs⟩

theorem back_stops_nil (F : Fence) (n : Nat) (hf : F.fn 63) (hro : F.round = none) (Bs n₀ : Nat) (w : World) (hBs : Bs < w.heap.size) (hc : w.cell? ⟨Bs, 0, none⟩ = some (.slice none 0 0)) :
    SeqStopsK F n Tryd.prog 63 #[.pointer (some ⟨Bs, 0, none⟩)] (fun x : Nat × Nat => #[Value.int .i64 (x.1 : Int), Value.int .u64 (x.2 : Int)]) (Below n₀) (fun ys => ys = []) (fun _ => False) 0 w := fun l J Jx W hW _ _ hY h0 => by
  have hc' := (hW.cell (p := ⟨Bs, 0, none⟩) hBs).trans hc
  exact (back1_nil_in F n hf hro l Bs J W hc' h0).mono fun e W' ⟨he, hj⟩ => ⟨he, .inl ⟨_, rfl, hj⟩⟩

theorem own_form {w : World} {base : Nat} {e : TypeId} {v : Value} {n : Nat} {xs : List Value} (h : w.ownsRow base e 1 v n xs) (hn : 0 < n) : ∃ g cap, v = .slice (some ⟨g, 0, none⟩) n cap ∧ base ≤ g ∧ g < w.heap.size := by
  rcases h.2 with ⟨_, h0⟩ | ⟨g, cap, cur, rfl, h1, h2, _⟩
  · omega
  · exact ⟨g, cap, rfl, h1, heap_lt h2⟩

theorem decL_pos (n : Nat) : 0 < (decL n).length := by
  unfold decL
  split
  · simp
  · rw [List.length_map, List.length_reverse, length_digs]
    exact lnz (by omega) (by omega)

set_option maxRecDepth 100000 in
set_option maxHeartbeats 2000000 in
theorem decS_in (n b off cap : Nat) (w : World) (hb : b < w.heap.size) (hn : (n : Int) < 10000000000000000000) (hc : w.cell? ⟨b, off, none⟩ = some (.int .u64 n)) (hP : TabP w) :
    CallsIn Fence.wide 5 Tryd.prog 27 #[.slice (some ⟨b, off, none⟩) 1 cap] w fun e W' => e = .returned (.string (dec n)) ∧ Below w.heap.size w W' := by
  have hP' := Lib.hid hP; clear hP
  have hge : decide ((10000000000000000000 : Int) ≤ (n : Int)) = false := by simpa using hn
  have Hn := Lib.hid hn; clear hn
  refine callsIn_of_wp_marks Tryd.func27 rfl trivial ?_ rfl
  simp only [Tryd.ntmps27, List.size_toArray, List.length_cons, List.length_nil, Nat.reduceAdd, Nat.reduceSub, Array.replicate_succ, Array.replicate_zero, List.push_toArray, List.append_toArray, List.nil_append, List.cons_append]
  gi_wp2_with fail
  gi_loopw [0, 3, 4] (fun x c k wr => x = .slice (some ⟨b, off, none⟩) 1 cap ∧ c = .slice none 0 0 ∧ wr = w) (fun _ _ _ _ => 0)
  case atStart => exact ⟨rfl, rfl, rfl⟩
  case round =>
    obtain ⟨rfl, rfl, rfl⟩ := hrel
    gi_wp2_with fail
    refine ⟨trivial, ?_⟩
    refine (callsIn_wide.2 (appendUint_nil n (by have := Hn.out; omega) _ hP'.out)).mono ?_
    rintro e w1 ⟨⟨v1, rfl, hown⟩, hb1⟩
    obtain ⟨g, cap', rfl, hg1, hg2⟩ := own_form hown (decL_pos n)
    gi_wp2_with fail
    refine ⟨trivial, ?_⟩
    refine (back_in Fence.wide _ trivial rfl _ _ _ _).mono ?_
    rintro e w' ⟨rfl, rfl⟩
    gi_wp2_with fail
    have hcells : ∀ j (hj : j < (decL n).length), w1.cell? ((⟨g, 0, none⟩ : Addr).add j) = some (.int .u8 ((decL n)[j].toNat : Int)) := by
      intro j hj
      refine hown.cells (g := g) rfl j _ ?_
      rw [Lib.byteCells, List.getElem?_map, List.getElem?_eq_getElem hj]
      rfl
    have bT := Box.new w1 74 #[.slice (some ⟨g, 0, none⟩) (decL n).length cap']
    have bN := Box.new (w1.alloc (.cells #[.slice (some ⟨g, 0, none⟩) (decL n).length cap'] 74)) 40 #[.slice none 0 0]
    have hB0 : Below w1.heap.size w1 ((w1.alloc (.cells #[.slice (some ⟨g, 0, none⟩) (decL n).length cap'] 74)).alloc (.cells #[.slice none 0 0] 40)) := ((Below.refl _ w1).alloc (Nat.le_refl _) _).alloc (by simp) _
    rw [World.size_alloc] at bN
    have hT1 := (bT.alloc (.cells #[.slice none 0 0] 40)).cell 0
    have hc1 : ∀ j (hj : j < (decL n).length), ((w1.alloc (.cells #[.slice (some ⟨g, 0, none⟩) (decL n).length cap'] 74)).alloc (.cells #[.slice none 0 0] 40)).cell? ((⟨g, 0, none⟩ : Addr).add j) = some (.int .u8 ((decL n)[j].toNat : Int)) := fun j hj =>
      (hB0.cell (p := (⟨g, 0, none⟩ : Addr).add j) (by unfold Addr.add; split <;> exact hg2)).trans (hcells j hj)
    have HG := Lib.hid hge; clear hge
    clear hown hcells
    refine wpIn_rangeFunc_ownG rfl (by omega) (gf := 63) (lb := #[.pointer (some ⟨w1.heap.size + 1, 0, none⟩)]) rfl trivial (enters_of Tryd.func63 (by kernel_rfl) rfl)
      (back_stops_nil Fence.wide (5 - 1) trivial rfl (w1.heap.size + 1) w1.heap.size _ (by simp) (bN.cell 0)) belowK_t (belowK_b (by simp; omega)) (Below.refl _ _) (fun _ => rfl)
      (fun pre W => (W.cell? ⟨w1.heap.size, 0, none⟩ = some (.slice (some ⟨g, 0, none⟩) (decL n).length cap') ∧ ∀ j (hj : j < (decL n).length), W.cell? ((⟨g, 0, none⟩ : Addr).add j) = some (.int .u8 ((decL n)[j].toNat : Int))) ∧ Below w1.heap.size w1 W)
      (fun _ _ _ => False)
      (OwnFrom.and (Own.from (fun s A B row hs hg hr => ⟨cell_kept hs.1 hg hr, fun j hj => cell_kept (hs.2 j hj) hg hr⟩) _) (ownFrom_below (Nat.le_refl _) (by simp; omega)))
      (fun _ _ _ _ _ hs _ _ => hs)
      ⟨⟨hT1, hc1⟩, hB0⟩
      ?a₁ ?assign ?body ?done ?stop
    case assign =>
      intro l x W K hK
      gi_wp2
      exact hK
    case body =>
      intro l pre x W _ hlt
      omega
    case done =>
      rintro D ys W hD rfl ⟨⟨hct, hcs⟩, hB⟩ hK
      have hcv := run_convert_bytes_back (P := Tryd.prog) W 74 9 5 ⟨g, 0, none⟩ cap' (decL n) Tryd.underlying74 Tryd.underlying5 Tryd.underlying9 hcs
      gi_wp2
      refine ⟨by simp, .inl ⟨_, _, rfl, run_takeDeferred hK, ?_⟩⟩
      exact ⟨_, results_tmp rfl _ _ _, rfl, hb1.trans ((hB.trans (belowK_b (w := w1) (Nat.le_refl _) W D _ _ (by simp at hD; omega) hK rfl rfl)).mono hb1.size)⟩
    case stop =>
      rintro D c pre W _ _ h _
      exact h.elim

set_option maxRecDepth 100000 in
set_option maxHeartbeats 2000000 in
theorem decS_zero (A0 : Option Addr) (cap : Nat) (w : World) (hP : TabP w) :
    CallsIn Fence.wide 5 Tryd.prog 27 #[.slice A0 0 cap] w fun e W' => e = .returned (.string (dec 0)) ∧ Below w.heap.size w W' := by
  have hP' := Lib.hid hP; clear hP
  refine callsIn_of_wp_marks Tryd.func27 rfl trivial ?_ rfl
  simp only [Tryd.ntmps27, List.size_toArray, List.length_cons, List.length_nil, Nat.reduceAdd, Nat.reduceSub, Array.replicate_succ, Array.replicate_zero, List.push_toArray, List.append_toArray, List.nil_append, List.cons_append]
  gi_wp2_with fail
  gi_loopw [0, 3, 4] (fun x c k wr => x = .slice A0 0 cap ∧ c = .slice none 0 0 ∧ wr = w) (fun _ _ _ _ => 0)
  case atStart => exact ⟨rfl, rfl, rfl⟩
  case round =>
    obtain ⟨rfl, rfl, rfl⟩ := hrel
    gi_wp2_with fail
    refine ⟨trivial, ?_⟩
    refine (callsIn_wide.2 (appendUint_nil 0 (by omega) _ hP'.out)).mono ?_
    rintro e w1 ⟨⟨v1, rfl, hown⟩, hb1⟩
    obtain ⟨g, cap', rfl, hg1, hg2⟩ := own_form hown (decL_pos 0)
    gi_wp2_with fail
    refine ⟨trivial, ?_⟩
    refine (back_in Fence.wide _ trivial rfl _ _ _ _).mono ?_
    rintro e w' ⟨rfl, rfl⟩
    gi_wp2_with fail
    have hcells : ∀ j (hj : j < (decL 0).length), w1.cell? ((⟨g, 0, none⟩ : Addr).add j) = some (.int .u8 ((decL 0)[j].toNat : Int)) := by
      intro j hj
      refine hown.cells (g := g) rfl j _ ?_
      rw [Lib.byteCells, List.getElem?_map, List.getElem?_eq_getElem hj]
      rfl
    have bT := Box.new w1 74 #[.slice (some ⟨g, 0, none⟩) (decL 0).length cap']
    have bN := Box.new (w1.alloc (.cells #[.slice (some ⟨g, 0, none⟩) (decL 0).length cap'] 74)) 40 #[.slice none 0 0]
    have hB0 : Below w1.heap.size w1 ((w1.alloc (.cells #[.slice (some ⟨g, 0, none⟩) (decL 0).length cap'] 74)).alloc (.cells #[.slice none 0 0] 40)) := ((Below.refl _ w1).alloc (Nat.le_refl _) _).alloc (by simp) _
    rw [World.size_alloc] at bN
    have hT1 := (bT.alloc (.cells #[.slice none 0 0] 40)).cell 0
    have hc1 : ∀ j (hj : j < (decL 0).length), ((w1.alloc (.cells #[.slice (some ⟨g, 0, none⟩) (decL 0).length cap'] 74)).alloc (.cells #[.slice none 0 0] 40)).cell? ((⟨g, 0, none⟩ : Addr).add j) = some (.int .u8 ((decL 0)[j].toNat : Int)) := fun j hj =>
      (hB0.cell (p := (⟨g, 0, none⟩ : Addr).add j) (by unfold Addr.add; split <;> exact hg2)).trans (hcells j hj)
    clear hown hcells
    refine wpIn_rangeFunc_ownG rfl (by omega) (gf := 63) (lb := #[.pointer (some ⟨w1.heap.size + 1, 0, none⟩)]) rfl trivial (enters_of Tryd.func63 (by kernel_rfl) rfl)
      (back_stops_nil Fence.wide (5 - 1) trivial rfl (w1.heap.size + 1) w1.heap.size _ (by simp) (bN.cell 0)) belowK_t (belowK_b (by simp; omega)) (Below.refl _ _) (fun _ => rfl)
      (fun pre W => (W.cell? ⟨w1.heap.size, 0, none⟩ = some (.slice (some ⟨g, 0, none⟩) (decL 0).length cap') ∧ ∀ j (hj : j < (decL 0).length), W.cell? ((⟨g, 0, none⟩ : Addr).add j) = some (.int .u8 ((decL 0)[j].toNat : Int))) ∧ Below w1.heap.size w1 W)
      (fun _ _ _ => False)
      (OwnFrom.and (Own.from (fun s A B row hs hg hr => ⟨cell_kept hs.1 hg hr, fun j hj => cell_kept (hs.2 j hj) hg hr⟩) _) (ownFrom_below (Nat.le_refl _) (by simp; omega)))
      (fun _ _ _ _ _ hs _ _ => hs)
      ⟨⟨hT1, hc1⟩, hB0⟩
      ?a₁ ?assign ?body ?done ?stop
    case assign =>
      intro l x W K hK
      gi_wp2
      exact hK
    case body =>
      intro l pre x W _ hlt
      omega
    case done =>
      rintro D ys W hD rfl ⟨⟨hct, hcs⟩, hB⟩ hK
      have hcv := run_convert_bytes_back (P := Tryd.prog) W 74 9 5 ⟨g, 0, none⟩ cap' (decL 0) Tryd.underlying74 Tryd.underlying5 Tryd.underlying9 hcs
      gi_wp2
      refine ⟨by simp, .inl ⟨_, _, rfl, run_takeDeferred hK, ?_⟩⟩
      exact ⟨_, results_tmp rfl _ _ _, rfl, hb1.trans ((hB.trans (belowK_b (w := w1) (Nat.le_refl _) W D _ _ (by simp at hD; omega) hK rfl rfl)).mono hb1.size)⟩
    case stop =>
      rintro D c pre W _ _ h _
      exact h.elim

/-- The numeral of every number below 10^19. -/
theorem decOf_small (n : Nat) (hn : n < 10000000000000000000) : DecOf TabP n := fun v W hP hv => by
  rcases Nat.eq_zero_or_pos n with rfl | h0
  · obtain ⟨A0, cap, rfl, _, _, _⟩ := RowF.open hv
    exact callsIn_wide.1 (decS_zero A0 cap W hP)
  · have hl : ln WB n = 1 := by
      have h1 := ln_le_of_lt WB n 1 WB_two (by unfold WB; omega)
      have h2 := lnz (b := WB) WB_two h0
      omega
    rcases hv with ⟨_, h⟩ | ⟨b, off, cap, rfl, h1, h2, ⟨cs, h3⟩, h4⟩
    · omega
    · have hc : W.cell? ⟨b, off + 0, none⟩ = some (.int .u64 ((digs WB n).getD 0 0 : Nat)) := h4 0 (by omega)
      have hd : (digs WB n).getD 0 0 = n := by
        show dg WB n 0 = n
        rw [dg_zero WB n WB_two]
        exact Nat.mod_eq_of_lt (by unfold WB; omega)
      rw [hd] at hc
      rw [hl]
      exact callsIn_wide.1 (decS_in n b off cap W (heap_lt h3) (by omega) hc hP)

end Go.Proofs.YtbcckgofoknmbaaDoor
/-
  strconv.FormatUint at base 10; a text padded with zeros to a fixed number of digits.
-/
namespace Go.Proofs.YtbcckgofoknmbaaDoor
open Go.RowKit Num Go.Shelf

/-- The k last digits of d. -/
def padL : Nat → Nat → List UInt8
  | 0, _ => []
  | k + 1, d => padL k (d / 10) ++ [UInt8.ofNat (48 + d % 10)]

theorem padL_len (k d : Nat) : (padL k d).length = k := by
  induction k generalizing d with
  | zero => rfl
  | succ k ih => simp [padL, ih]

theorem padL_zero (k : Nat) : padL k 0 = List.replicate k 48 := by
  induction k with
  | zero => rfl
  | succ k ih => rw [padL, Nat.zero_div, ih, List.replicate_succ']; rfl

theorem decL_padL (k q d : Nat) (hq : 0 < q) (hd : d < 10 ^ k) : decL (10 ^ k * q + d) = decL q ++ padL k d := by
  induction k generalizing d with
  | zero =>
    obtain rfl : d = 0 := by simpa using hd
    simp [padL]
  | succ k ih =>
    have h1 : 0 < 10 ^ k := Nat.pow_pos (by omega)
    have h2 : 10 ^ (k + 1) * q + d = 10 * (10 ^ k * q) + d := by rw [Nat.pow_succ, Nat.mul_comm (10 ^ k) 10, Nat.mul_assoc]
    have h3 : 1 ≤ 10 ^ k * q := Nat.mul_pos h1 hq
    have h4 : d < 10 * 10 ^ k := by rw [Nat.mul_comm]; exact hd
    rw [h2, decL_step _ (by omega), show (10 * (10 ^ k * q) + d) / 10 = 10 ^ k * q + d / 10 by omega, show (10 * (10 ^ k * q) + d) % 10 = d % 10 by omega, ih (d / 10) (by omega), padL, List.append_assoc]

theorem decL_le (k d : Nat) (hk : 0 < k) (hd : d < 10 ^ k) : (decL d).length ≤ k := by
  induction k generalizing d with
  | zero => omega
  | succ k ih =>
    by_cases h : d < 10
    · rw [decL_small d h]; simp
    · rw [decL_step d (by omega), List.length_append]
      have h4 : d < 10 * 10 ^ k := by rw [Nat.mul_comm]; exact hd
      rcases Nat.eq_zero_or_pos k with rfl | hk0
      · simp at h4; omega
      · have := ih (d / 10) hk0 (by omega)
        simp; omega

theorem padL_eq (k d : Nat) (hk : 0 < k) (hd : d < 10 ^ k) : padL k d = List.replicate (k - (decL d).length) 48 ++ decL d := by
  induction k generalizing d with
  | zero => omega
  | succ k ih =>
    have h4 : d < 10 * 10 ^ k := by rw [Nat.mul_comm]; exact hd
    by_cases h : d < 10
    · rw [padL, show d / 10 = 0 by omega, padL_zero, decL_small d h, show d % 10 = d by omega]
      simp
    · have hk0 : 0 < k := by
        rcases Nat.eq_zero_or_pos k with h0 | h0
        · subst h0; simp at h4; omega
        · exact h0
      have hl := decL_le k (d / 10) hk0 (by omega)
      rw [padL, ih (d / 10) hk0 (by omega), decL_step d (by omega), List.length_append, List.append_assoc]
      simp only [List.length_cons, List.length_nil]
      rw [show k + 1 - ((decL (d / 10)).length + (0 + 1)) = k - (decL (d / 10)).length by omega]

theorem repeat_zeros (c : Nat) : Lib.repeatL [48] c = List.replicate c (48 : UInt8) := by
  induction c with
  | zero => rfl
  | succ c ih => rw [Lib.repeatL, ih]; rfl

set_option maxRecDepth 100000 in
set_option maxHeartbeats 6400000 in
/-- internal/strconv.FormatUint, base 10. -/
theorem fmtIn_any (u : Nat) (hu64 : u < 18446744073709551616) (w : World) (hP : TabP w) :
    Calls Tryd.prog 64 #[.int .u64 u, .int .i64 10] w fun e w' => e = .returned (.string (dec u)) ∧ Below w.heap.size w w' := by
  rw [dec, ← decDigits_decL]
  by_cases hs : u < 100
  · have hlt : decide ((u : Int) < 100) = true := by rw [decide_eq_true_iff]; omega
    have hcv : IntKind.i64.wrap (u : Int) = (u : Int) := IntWalk.i64_in _ (by omega)
    go_enter Tryd.func64, Tryd.ntmps64
    go_wp2_with (go_at_call 82; refine (Tryd.internal_strconv_small u hs _).mono ?_; rintro e w' ⟨rfl, rfl⟩)
    go_ret
    exact ⟨rfl, Below.refl _ _⟩
  · have hlt : decide ((u : Int) < 100) = false := by rw [decide_eq_false_iff_not]; omega
    have hu1 : 1 ≤ u := by omega
    have hnd20 : Lib.nDigits u ≤ 20 := by have := Lib.numDigits_eq u hu1 hu64; split at this <;> omega
    have hal : Tryd.prog.arrayLen 116 = 24 := by kernel_rfl
    have hsl : ∀ W, (Instr.sliceAt 116 (.pointer (some ⟨w.heap.size, 0, none⟩)) none (some (.int .i64 (Lib.nDigits u : Int))) none).run Tryd.prog W = .ok (.slice (some ⟨w.heap.size, 0, none⟩) (Lib.nDigits u) 24) W := fun W => by
      rw [run_sliceAt_array_h W 116 ⟨w.heap.size, 0, none⟩ (by kernel_rfl) .i64 (Lib.nDigits u : Int) (by omega) (by rw [hal]; omega)]
      go_simp
    have hH0 := Lib.holds_zero0 w 116 (Lib.nDigits u) (by omega)
    have hfmt := Tryd.internal_strconv_formatBase10 w.heap.size 0 24 u (Array.replicate (Lib.nDigits u) 0) (w.alloc (.cells Lib.zeros24 116)) hH0 (by rw [Array.size_replicate]; exact Lib.lt_pow_nDigits u) hu64 (by rw [Array.size_replicate]; omega)
    rw [Array.size_replicate] at hfmt
    have HH0 := Lib.hid hH0
    clear hH0 hal
    go_enter Tryd.func64, Tryd.ntmps64
    go_wp2_with (first
      | (go_at_call 83; refine (Tryd.internal_strconv_numDigits u hu1 hu64 _ (Lib.tabIs_alloc hP _)).mono ?_; rintro e w' ⟨rfl, rfl⟩))
    go_at_call 84
    refine hfmt.mono ?_
    rintro e w' ⟨rfl, k, v', dk, rfl, hF⟩
    have hcv : (convert 74 9 (.slice (some ⟨w.heap.size, 0, none⟩) (Lib.nDigits u) 24)).run Tryd.prog ((Sort.putRow (fun (b : UInt8) => Value.int .u8 (b.toNat : Int)) (w.alloc (.cells Lib.zeros24 116)) w.heap.size 0 dk).drewN k) = .ok (.string ⟨(Lib.decDigits u).toArray⟩) ((Sort.putRow (fun (b : UInt8) => Value.int .u8 (b.toNat : Int)) (w.alloc (.cells Lib.zeros24 116)) w.heap.size 0 dk).drewN k) := by
      have h := run_convert_bytes_back (P := Tryd.prog) ((Sort.putRow (fun (b : UInt8) => Value.int .u8 (b.toNat : Int)) (w.alloc (.cells Lib.zeros24 116)) w.heap.size 0 dk).drewN k) 74 9 5 ⟨w.heap.size, 0, none⟩ 24 (Lib.decDigits u) Tryd.underlying74 Tryd.underlying5 Tryd.underlying9 (fun j hj => by
        rw [Lib.row_is_numeral hF j hj, Lib.add_plain, World.cell?_drewN]
        exact Sort.cell?_putRow (fun (b : UInt8) => Value.int .u8 (b.toNat : Int)) _ w.heap.size 0 _ dk HH0.out (by rw [hF.size, Array.size_replicate]) j (by rw [hF.size]; rw [Lib.decDigits_length] at hj; exact hj))
      rw [Lib.decDigits_length] at h
      exact h
    obtain ⟨os, eo⟩ := Lib.fin_at w (.cells Lib.zeros24 116) dk k 0
    have hbb : Below w.heap.size w ((Sort.putRow (fun (b : UInt8) => Value.int .u8 (b.toNat : Int)) (w.alloc (.cells Lib.zeros24 116)) w.heap.size 0 dk).drewN k) := by rw [eo]; exact Lib.below_grow w.heap.size w (Nat.le_refl _) k os
    clear eo
    have HB := Lib.hid hbb; clear hbb
    go_wp2
    go_ret
    exact ⟨rfl, HB.out⟩

set_option maxRecDepth 100000 in
theorem fmt_any (u : Nat) (hu64 : u < 18446744073709551616) (w : World) (hP : TabP w) :
    Calls Tryd.prog 43 #[.int .u64 u, .int .i64 10] w fun e w' => e = .returned (.string (dec u)) ∧ Below w.heap.size w w' := by
  have C := Lib.hid (fmtIn_any u hu64 w hP)
  clear hP
  go_enter Tryd.func43, Tryd.ntmps43
  go_wp2_with (go_at_call 64; refine C.out.mono ?_; rintro e w' ⟨rfl, hb⟩)
  go_ret
  exact ⟨rfl, hb⟩

/-- strings.Repeat("0", c). -/
theorem zeros_any (c : Nat) (hc : c ≤ 1000) (w : World) :
    Calls Tryd.prog 44 #[.string ⟨#[48]⟩, .int .i64 c] w fun e w' => e = .returned (.string ⟨(List.replicate c 48).toArray⟩) ∧ Below w.heap.size w w' := by
  have h := Tryd.strings_Repeat ⟨#[48]⟩ c w (by omega) (by show 1 * c ≤ _; omega)
  rw [repeat_zeros] at h
  exact h

end Go.Proofs.YtbcckgofoknmbaaDoor
/-
  The program's decimal numeral of any number: the chunks' loop, the range over them from the last to the first.
-/
namespace Go.Proofs.YtbcckgofoknmbaaDoor
open Go.RowKit Num Go.Shelf

attribute [local go_sem] Oper.semAt_some

/-- What has come when k rounds from the last to the first are over. -/
def downto {α : Type} (f : Nat → α) (len k : Nat) : List α := (List.range k).map fun i => f (len - 1 - i)
theorem downto_succ {α : Type} (f : Nat → α) (len k : Nat) : downto f len (k + 1) = downto f len k ++ [f (len - 1 - k)] := by simp [downto, List.range_succ]
theorem downto_length {α : Type} (f : Nat → α) (len k : Nat) : (downto f len k).length = k := by simp [downto]

/-- What the range hands over: an index, and a number of at most nineteen digits. -/
abbrev Ch := { x : Nat × Nat // x.2 < 10000000000000000000 }
def encCh (x : Ch) : Array Value := #[Value.int .i64 (x.1.1 : Int), Value.int .u64 (x.1.2 : Int)]
def chAt (d : Nat → Nat) (hd : ∀ j, d j < 10000000000000000000) (j : Nat) : Ch := ⟨(j, d j), hd j⟩

/-- What a round keeps: all below n₀, and the box Bs. -/
def Kept (Bs n₀ : Nat) (W W' : World) : Prop := Below n₀ W W' ∧ ∀ v, W.cell? ⟨Bs, 0, none⟩ = some v → W'.cell? ⟨Bs, 0, none⟩ = some v
theorem Kept.trans {Bs n₀ : Nat} {A B C : World} (h : Kept Bs n₀ A B) (k : Kept Bs n₀ B C) : Kept Bs n₀ A C := ⟨h.1.trans k.1, fun v e => k.2 v (h.2 v e)⟩
theorem Kept.refl (Bs n₀ : Nat) (W : World) : Kept Bs n₀ W W := ⟨Below.refl _ _, fun _ e => e⟩
theorem Kept.put {Bs n₀ : Nat} {w : World} (h : n₀ ≤ w.heap.size) (hB : Bs < w.heap.size) (W : World) (l : Nat) (o o' : Obj) (hl : w.heap.size ≤ l) (ho : W.heap[l]? = some o) (hc : o.isCells = false) (hk : o.isWalk = false) : Kept Bs n₀ W (W.putObj l o') :=
  ⟨belowK_b (w := w) h W l o o' hl ho hc hk, fun v e => by
    have h1 := belowK_b (w := w) (Nat.le_refl _) W l o o' hl ho hc hk
    exact (h1.cell (p := ⟨Bs, 0, none⟩) hB).trans e⟩

set_option maxRecDepth 100000 in
set_option maxHeartbeats 2000000 in
/-- slices.Backward's closure: the indices from the last to the first, each with its element. -/
theorem back1_in (F : Fence) (n : Nat) (hf : F.fn 63) (hro : F.round = none) (hn : 1 ≤ n) (l Bs n₀ b off len cap : Nat) (d : Nat → Nat) (hd : ∀ j, d j < 10000000000000000000) (hreach : len ≤ 1099511627776) (hb : b < n₀) (J Jx : List Ch → World → Prop)
    (hY : ∀ pre x W, J pre W → pre.length < len → YieldAt F (n - 1) Tryd.prog l (encCh x) W fun e W' =>
      (e = .returned (.bool true) ∧ J (pre ++ [x]) W' ∧ Kept Bs n₀ W W') ∨ (e = .returned (.bool false) ∧ Jx (pre ++ [x]) W'))
    (W : World) (hBs : W.cell? ⟨Bs, 0, none⟩ = some (.slice (some ⟨b, off, none⟩) len cap)) (hc : ∀ j, j < len → W.cell? ⟨b, off + j, none⟩ = some (.int .u64 (d j : Nat))) (h0 : J [] W) :
    CallsIn F n Tryd.prog 63 #[.func (.yield l) #[] #[], .pointer (some ⟨Bs, 0, none⟩)] W fun e W' => (∃ v, e = .returned v) ∧
      ((∃ ys, ys = downto (chAt d hd) len len ∧ J ys W') ∨ (∃ pre, (∃ k, k ≤ len ∧ pre = downto (chAt d hd) len k) ∧ Jx pre W')) := by
  refine callsIn_of_wp Tryd.func63 rfl hf ?_ hro
  simp only [Tryd.ntmps63, List.size_toArray, List.length_cons, List.length_nil, Nat.reduceAdd, Nat.reduceSub, Array.replicate_succ, Array.replicate_zero, List.push_toArray, List.append_toArray, List.nil_append, List.cons_append]
  gi_wp2
  have Hc := Lib.hid hc; clear hc
  gi_loopw [3] (fun i wr => ∃ k : Nat, k ≤ len ∧ i = .int .i64 ((len : Int) - 1 - k) ∧ J (downto (chAt d hd) len k) wr ∧ Kept Bs n₀ W wr)
    (fun i _ => ((intOf i) + 1).toNat)
  case atStart => exact ⟨0, Nat.zero_le _, by simp, h0, Kept.refl _ _ _⟩
  case round =>
    obtain ⟨k, hk, rfl, hJs, hnx⟩ := hrel
    have hBw := hnx.2 _ hBs
    by_cases hlt : k < len
    · obtain ⟨fn, tmps, assign, body, hy, hR⟩ := hY _ (chAt d hd (len - 1 - k)) wr hJs (by rw [downto_length]; exact hlt)
      simp only [encCh, chAt] at hy
      have hcx : wr.cell? ⟨b, off + (len - 1 - k), none⟩ = some (.int .u64 (d (len - 1 - k) : Nat)) := (hnx.1.cell (p := ⟨b, off + (len - 1 - k), none⟩) hb).trans (Hc.out _ (by omega))
      obtain ⟨m, hm⟩ : ∃ m, m = len - 1 - k := ⟨_, rfl⟩
      have hmi : (len : Int) - 1 - (k : Int) = (m : Int) := by omega
      rw [← hm] at hy hR hcx
      rw [hmi]
      have hml : m < len := by omega
      have Hm := Lib.hid hm; clear hm
      have Hmi := Lib.hid hmi; clear hmi
      gi_wp2
      refine hR.mono ?_
      rintro e W3 (⟨rfl, hJ3, hk3⟩ | ⟨rfl, hJx3⟩)
      · gi_wp2
        go_roundw
        case rel => exact ⟨k + 1, by omega, by have := Hmi.out; simp <;> omega, by rw [downto_succ, ← Hm.out]; exact hJ3, hnx.trans hk3⟩
        case measure => simp [intOf] <;> omega
      · gi_wp2
        refine bodyPost_ret (results_none rfl _ _ _) rfl ?_
        exact ⟨⟨_, rfl⟩, .inr ⟨_, ⟨k + 1, by omega, by rw [downto_succ, ← Hm.out]⟩, hJx3⟩⟩
    · obtain rfl : k = len := by omega
      have hmi : (k : Int) - 1 - (k : Int) = -1 := by omega
      rw [hmi]
      gi_wp2
      go_end0
      exact ⟨⟨_, rfl⟩, .inl ⟨_, rfl, hJs⟩⟩


set_option maxRecDepth 100000 in
set_option maxHeartbeats 1000000 in
/-- .. at the nil slice: no round. -/
theorem back1_none_in (F : Fence) (n : Nat) (hf : F.fn 63) (hro : F.round = none) (l Bs : Nat) (J : List Ch → World → Prop) (W : World) (hBs : W.cell? ⟨Bs, 0, none⟩ = some (.slice none 0 0)) (h0 : J [] W) :
    CallsIn F n Tryd.prog 63 #[.func (.yield l) #[] #[], .pointer (some ⟨Bs, 0, none⟩)] W fun e W' => (∃ v, e = .returned v) ∧ J [] W' := by
  refine callsIn_of_wp Tryd.func63 rfl hf ?_ hro
  simp only [Tryd.ntmps63, List.size_toArray, List.length_cons, List.length_nil, Nat.reduceAdd, Nat.reduceSub, Array.replicate_succ, Array.replicate_zero, List.push_toArray, List.append_toArray, List.nil_append, List.cons_append]
  gi_wp2
  gi_loopw [3] (fun i wr => i = .int .i64 (-1) ∧ J [] wr) (fun _ _ => 0)
  case atStart => exact ⟨rfl, h0⟩
  case round =>
    obtain ⟨rfl, hJs⟩ := hrel
    gi_wp2
    go_end0
    exact ⟨⟨_, rfl⟩, hJs⟩

/-- The slice value v holds the numbers d 0, .., in a block below n₀. -/
def ChIn (n₀ : Nat) (W : World) (v : Value) (len : Nat) (d : Nat → Nat) : Prop :=
  (v = .slice none 0 0 ∧ len = 0) ∨ ∃ b off cap, v = .slice (some ⟨b, off, none⟩) len cap ∧ b < n₀ ∧ ∀ j, j < len → W.cell? ⟨b, off + j, none⟩ = some (.int .u64 (d j : Nat))
theorem ChIn.below {n₀ : Nat} {A B : World} (h : Below n₀ A B) {v : Value} {len : Nat} {d : Nat → Nat} : ChIn n₀ A v len d → ChIn n₀ B v len d
  | .inl e => .inl e
  | .inr ⟨b, off, cap, e, hb, hc⟩ => .inr ⟨b, off, cap, e, hb, fun j hj => (h.cell (p := ⟨b, off + j, none⟩) hb).trans (hc j hj)⟩

theorem back_stops (F : Fence) (n : Nat) (hf : F.fn 63) (hro : F.round = none) (hn : 1 ≤ n) (Bs n₀ : Nat) (v : Value) (len : Nat) (d : Nat → Nat) (hd : ∀ j, d j < 10000000000000000000) (hreach : len ≤ 1099511627776) (w : World) (hBs : Bs < w.heap.size) (hn₀ : n₀ ≤ w.heap.size)
    (hc : w.cell? ⟨Bs, 0, none⟩ = some v) (hI : ChIn n₀ w v len d) :
    SeqStopsK F n Tryd.prog 63 #[.pointer (some ⟨Bs, 0, none⟩)] encCh (Kept Bs n₀) (fun ys => ys = downto (chAt d hd) len len) (fun _ => True) len w := fun l J Jx W hW _ _ hY h0 => by
  have hc' := (hW.cell (p := ⟨Bs, 0, none⟩) hBs).trans hc
  rcases hI.below (hW.mono hn₀) with ⟨rfl, rfl⟩ | ⟨b, off, cap, rfl, hb, hcs⟩
  · exact (back1_none_in F n hf hro l Bs J W hc' h0).mono fun e W' ⟨he, hj⟩ => ⟨he, .inl ⟨_, rfl, hj⟩⟩
  · refine (back1_in F n hf hro hn l Bs n₀ b off len cap d hd hreach hb J Jx hY W hc' hcs h0).mono ?_
    rintro e W' ⟨he, ⟨ys, rfl, hj⟩ | ⟨pre, _, hj⟩⟩
    · exact ⟨he, .inl ⟨_, rfl, hj⟩⟩
    · exact ⟨he, .inr ⟨_, trivial, hj⟩⟩

theorem wpListIn_append_str {F : Fence} {n' : Nat} {P : Program} (w : World) {ops : Array Oper} {rest : List Oper} {o : Oper} {a : Act} {Q : Exit → Act → World → Prop} (hgd : o.guard = none) (sl x : Operand) (t u : TypeId)
    (ho : o.op = .call { callee := .builtin .append, args := #[sl, x], argTypes := #[t, u] })
    (base : Nat) (e : TypeId) (i : TypeInfo) (ht : P.underlying t = some (.slice e)) (hu : P.underlying u = some .string) (hi : P.info? e = some i) (hz : i.zero = some (.int .u8 0))
    (hsize : i.size = 1) (hby : i.bytes = 1)
    (v : Value) (n : Nat) (xs : List Value) (hs : a.eval sl = v) (hown : w.ownsRow base e 1 v n xs) (s : ByteArray) (hx : a.eval x = .string s)
    (h63 : n + s.size ≤ maxLen) (hbytes : n + s.size ≤ 140737488355328) (hbase : base ≤ w.heap.size)
    (h : ∀ v' w', w'.ownsRow base e 1 v' (n + s.size) (xs ++ Lib.strCells s) → w.grownBy w' v.ownBlock → wpListIn F n' P ops Q rest (a.put o.dst v') w') : wpListIn F n' P ops Q (o :: rest) a w := by
  refine wpListIn_plain hgd fun K hK' => ?_
  obtain ⟨v', w', hrun, r1, r2, r3⟩ := Lib.run_append_own_string (P := P) w base t u o.type e i ht hu hi hz hsize hby v n xs hown s h63 hbytes hbase
  unfold Oper.wpIn
  refine ⟨?_, ?_⟩
  · simp [Oper.about, ho, resolve, Target.leads, Sem.run_pure]
  · rw [Oper.semAt_plain F _ _ (by rw [ho]; intro c hc'; cases hc')]
    simp [execOp, ho, resolve, invoke, builtin, hs, hx, hrun, Result.andThen]
    exact hK' _ _ (h v' w' r1 r2)

theorem boxed_appended {W w1 : World} {n₀ B : Nat} {t e : TypeId} {size : Nat} {v v' : Value} {k m : Nat} {xs ys : List Value}
    (hv : Boxed W B t v) (hte : t ≠ e) (hrow : W.ownsRow n₀ e size v k xs) (hn₀ : n₀ ≤ W.heap.size) (hB : n₀ ≤ B)
    (hown' : w1.ownsRow n₀ e size v' m ys) (hgrow : W.grownBy w1 v.ownBlock) :
    Boxed w1 B t v ∧ Boxed (w1.setCell ⟨B, 0, none⟩ v') B t v' ∧ (w1.setCell ⟨B, 0, none⟩ v').ownsRow n₀ e size v' m ys ∧ KeepsOthers W (w1.setCell ⟨B, 0, none⟩ v') ∧ Below n₀ W (w1.setCell ⟨B, 0, none⟩ v') := by
  have hv1 : Boxed w1 B t v := hv.kept hgrow (hv.not_row hte hrow)
  refine ⟨hv1, hv1.set v', hown'.kept (grownBy_setCell' w1 B v') (.inr (hv1.not_row hte hown').symm), ?_, ?_⟩
  · refine (KeepsOthers.of_grownBy hgrow fun j o ej hj => ?_).trans (KeepsOthers.setCell _ _ _)
    rcases hrow.2 with ⟨rfl, _⟩ | ⟨g, cap, cur, rfl, _, hgb, _⟩
    · simp [Value.ownBlock] at ej
    · obtain rfl : g = j := by simpa [Value.ownBlock] using ej
      rw [hgb] at hj; cases hj; rfl
  · refine ((Below.refl n₀ W).grown hgrow hn₀ fun j ej => ?_).setCell (p := ⟨B, 0, none⟩) hB v'
    rcases hrow.2 with ⟨rfl, _⟩ | ⟨g, cap, cur, rfl, hb, _, _⟩
    · simp [Value.ownBlock] at ej
    · obtain rfl : g = j := by simpa [Value.ownBlock] using ej
      exact hb

end Go.Proofs.YtbcckgofoknmbaaDoor
