/-
  Decision diagrams: the law's copies, comparisons, marks and looks of them. A diagram is its levels, its nodes (a list of structs of three ints) and its root.
-/
import Derived.Test.YtamjfcckgeakfaaPgMk0
import Derived.Test.YtamjfcckgeakfaaDnA
namespace Go.Proofs.Ytamjfcckgeakfaa
open Go.RowKit Num

theorem stepB {W w1 w2 : World} (h : Below W.heap.size W w1) (k : Below w1.heap.size w1 w2) : Below W.heap.size W w2 := h.trans (k.mono h.size)
theorem Marks.hi {lo hi hi' : Nat} {w w' : World} (h : Marks lo hi w w') (hh : w.heap.size ≤ hi') : Marks lo hi' w w' := ⟨h.os, h.tape, h.output, h.size, h.fro, h.kin, fun b hb ho => h.out b hb (.inl (by omega))⟩

theorem IntsAt.trio {lo : Nat} {w : World} {A : Option Addr} {n k : Nat} {f : Nat → Int} (h : IntsAt lo w A (n * 3) f) (hk : k < n) : ∃ b off, A = some ⟨b, off, none⟩ ∧ b < w.heap.size ∧ w.cell? ⟨b, off + k * 3, none⟩ = some (.int .i64 (f (k * 3))) ∧ w.cell? ⟨b, off + k * 3 + 1, none⟩ = some (.int .i64 (f (k * 3 + 1))) ∧ w.cell? ⟨b, off + k * 3 + 2, none⟩ = some (.int .i64 (f (k * 3 + 2))) := by
  obtain ⟨b, off, rfl, h1, h2⟩ := h (by omega)
  exact ⟨b, off, rfl, h1.2, h2 _ (by omega), h2 (k * 3 + 1) (by omega), h2 (k * 3 + 2) (by omega)⟩

theorem held6d {p0 p1 p2 p3 p4 p5 K : Prop} (h : p0 ∧ p1 ∧ p2 ∧ p3 ∧ p4 ∧ p5 ∧ K) : K := h.2.2.2.2.2.2

set_option maxRecDepth 100000 in
set_option maxHeartbeats 3200000 in
theorem eqDgn_any (a b c : Int) (w : World) :
    Calls Try.prog 77 #[.agg #[.int .i64 a, .int .i64 b, .int .i64 c], .agg #[.int .i64 a, .int .i64 b, .int .i64 c]] w fun e w' => e = .returned (.bool true) ∧ Below w.heap.size w w' := by
  have hA := (Box.new w 86 #[.int .i64 a, .int .i64 b, .int .i64 c]).alloc (.cells #[.int .i64 a, .int .i64 b, .int .i64 c] 86)
  have q0 := hA.cell 0
  have q1 := hA.cell 1
  have q2 := hA.cell 2
  go_enter Try.func77, Try.ntmps77
  go_wp2_with fail
  go_ret
  exact ⟨rfl, ((Below.refl _ w).alloc (Nat.le_refl _) _).alloc (by simp) _⟩

set_option maxRecDepth 100000 in
set_option maxHeartbeats 3200000 in
theorem eqDgS_any (lo lo' : Nat) (A0 A1 : Option Addr) (n c0 c1 : Nat) (f : Nat → Int) (w : World) (hn : n ≤ 1048576) (h0 : IntsAt lo w A0 (n * 3) f) (h1 : IntsAt lo' w A1 (n * 3) f) :
    Calls Try.prog 48 #[.slice A0 n c0, .slice A1 n c1] w fun e w' => e = .returned (.bool true) ∧ Below w.heap.size w w' := by
  have H0 := Lib.hid h0; clear h0
  have H1 := Lib.hid h1; clear h1
  go_enter Try.func48, Try.ntmps48
  go_wp2_with fail
  go_loopg [5] n (fun q iv wr => ∃ k : Nat, k + q = n ∧ iv = .int .i64 (k : Nat) ∧ Below w.heap.size w wr)
  case atStart => exact ⟨0, by omega, rfl, Below.refl _ _⟩
  case round =>
    obtain ⟨k, hk, rfl, hbel⟩ := hrel
    by_cases hk0 : k < n
    · obtain ⟨b, off, rfl, hb, r0, r1, r2⟩ := (H0.out.below hbel (Nat.le_refl _)).trio hk0
      obtain ⟨b', off', rfl, hb', s0, s1, s2⟩ := (H1.out.below hbel (Nat.le_refl _)).trio hk0
      generalize f (k * 3) = x at r0 s0
      generalize f (k * 3 + 1) = y at r1 s1
      generalize f (k * 3 + 2) = z at r2 s2
      have C : Hid (∀ W, Below wr.heap.size wr W → _) := Lib.hid fun W hW => eqDgn_any x y z W
      clear H0 H1
      go_upto_region 6 with fail
      go_region_held3 (fun w' => w'.cell? ⟨b, off + k * 3, none⟩ = some (.int .i64 x) ∧ w'.cell? ⟨b, off + k * 3 + 1, none⟩ = some (.int .i64 y) ∧ w'.cell? ⟨b, off + k * 3 + 2, none⟩ = some (.int .i64 z) ∧ w'.cell? ⟨b', off' + k * 3, none⟩ = some (.int .i64 x) ∧ w'.cell? ⟨b', off' + k * 3 + 1, none⟩ = some (.int .i64 y) ∧ w'.cell? ⟨b', off' + k * 3 + 2, none⟩ = some (.int .i64 z) ∧ Below wr.heap.size wr w')
        ((suffices hB : Below wr.heap.size wr _ from ⟨(hB.cell hb).trans r0, (hB.cell hb).trans r1, (hB.cell hb).trans r2, (hB.cell hb').trans s0, (hB.cell hb').trans s1, (hB.cell hb').trans s2, hB⟩; first | exact (Below.refl _ wr).drew | exact held6d (by assumption) | (refine stepB (held6d (by assumption)) ?_; assumption)))
        ((go_at_call 77; refine (C.out _ (held6d (by assumption))).mono ?_; rintro e w1 ⟨rfl, hb1⟩))
      all_goals go_wp2_with fail
      go_roundg (gk - 1)
      case rel => exact ⟨k + 1, by omega, by go_num, hbel.trans ((show Below wr.heap.size wr _ from held6d (by assumption)).mono hbel.size)⟩
      case measure => omega
    · obtain rfl : k = n := by omega
      go_wp2_with fail
      go_ret
      exact ⟨rfl, hbel⟩

set_option maxRecDepth 100000 in
set_option maxHeartbeats 3200000 in
theorem markDgS_any (lo hi : Nat) (A0 : Option Addr) (n cap : Nat) (w : World) (hn : n ≤ 1048576) (h : ShI lo hi w A0 (n * 3)) :
    Calls Try.prog 49 #[.slice A0 n cap, .int .i64 1] w fun e w' => e = .returned (.int .i64 (1 + ((n * 3 : Nat) : Int))) ∧ IntsAt lo w' A0 (n * 3) (fun j => 1 + (j : Int)) ∧ Marks lo hi w w' := by
  have H := Lib.hid h
  clear h
  go_enter Try.func49, Try.ntmps49
  go_wp2_with fail
  go_loopg [1, 5] n (fun q kv iv wr => ∃ (k : Nat) (x : Int), k + q = n ∧ iv = .int .i64 (k : Nat) ∧ kv = .int .i64 x ∧ Hid (x = 1 + ((k * 3 : Nat) : Int)) ∧ Hid (∀ b off, A0 = some ⟨b, off, none⟩ → ∀ j, j < k * 3 → wr.cell? ⟨b, off + j, none⟩ = some (.int .i64 (1 + (j : Int)))) ∧ Marks lo hi w wr)
  case atStart => exact ⟨0, 1, by omega, rfl, rfl, Lib.hid (by omega), Lib.hid (fun b off _ j hj => absurd hj (by omega)), Marks.refl _ _ _⟩
  case round =>
    obtain ⟨k, x, hkq, rfl, rfl, hx, hdone, hmk⟩ := hrel
    by_cases hk0 : k < n
    · have hn0 : 0 < n * 3 := by omega
      have hsh := H.out
      obtain ⟨b0, off0, e0, hfw, hcw⟩ := hsh hn0
      obtain ⟨b, off, rfl, hf, hc⟩ := (hsh.marks hmk) hn0
      injection e0 with e0
      injection e0 with e1 e2 _
      subst e1 e2
      obtain ⟨z0, r0⟩ := hc (k * 3) (by omega)
      obtain ⟨z1, r1⟩ := hc (k * 3 + 1) (by omega)
      obtain ⟨z2, r2⟩ := hc (k * 3 + 2) (by omega)
      rw [← Nat.add_assoc] at r1 r2
      obtain ⟨y0, R0⟩ := hcw (k * 3) (by omega)
      obtain ⟨y1, R1⟩ := hcw (k * 3 + 1) (by omega)
      obtain ⟨y2, R2⟩ := hcw (k * 3 + 2) (by omega)
      rw [← Nat.add_assoc] at R1 R2
      have f0 := hf.2.2 (off + k * 3)
      have f1 := hf.2.2 (off + k * 3 + 1)
      have f2 := hf.2.2 (off + k * 3 + 2)
      have hf0 := hfw.1
      have hx1 : 0 ≤ x ∧ x ≤ 200000000000000000 := by have := hx.out; omega
      have w0 : IntKind.i64.wrap (x + 1) = x + 1 := IntWalk.i64_in _ (by omega)
      have w1 : IntKind.i64.wrap (x + 1 + 1) = x + 2 := by rw [IntWalk.i64_in _ (by omega)]; omega
      have w2 : IntKind.i64.wrap (x + 2 + 1) = x + 3 := by rw [IntWalk.i64_in _ (by omega)]; omega
      have hR : Hid (∀ j, j < (k + 1) * 3 → (((wr.setCell ⟨b, off + k * 3, none⟩ (.int .i64 x)).setCell ⟨b, off + k * 3 + 1, none⟩ (.int .i64 (x + 1))).setCell ⟨b, off + k * 3 + 2, none⟩ (.int .i64 (x + 2))).cell? ⟨b, off + j, none⟩ = some (.int .i64 (1 + (j : Int)))) := Lib.hid fun j hj => by
        have hx0 := hx.out
        have ne : ∀ i i' : Nat, i ≠ i' → (⟨b, i, none⟩ : Addr) ≠ ⟨b, i', none⟩ := fun i i' h e => by injection e with _ e2 _; exact h e2
        by_cases j2 : j = k * 3 + 2
        · subst j2
          rw [← Nat.add_assoc, World.cell?_setCell_same _ _ _ (by rw [World.cell?_setCell_other _ _ _ _ (ne _ _ (by omega)), World.cell?_setCell_other _ _ _ _ (ne _ _ (by omega))]; exact r2)]
          rw [show x + 2 = 1 + ((k * 3 + 2 : Nat) : Int) by omega]
        · rw [World.cell?_setCell_other _ _ _ _ (ne _ _ (by omega))]
          by_cases j1 : j = k * 3 + 1
          · subst j1
            rw [← Nat.add_assoc, World.cell?_setCell_same _ _ _ (by rw [World.cell?_setCell_other _ _ _ _ (ne _ _ (by omega))]; exact r1)]
            rw [show x + 1 = 1 + ((k * 3 + 1 : Nat) : Int) by omega]
          · rw [World.cell?_setCell_other _ _ _ _ (ne _ _ (by omega))]
            by_cases j0 : j = k * 3
            · subst j0
              rw [World.cell?_setCell_same _ _ _ r0, hx0]
            · rw [World.cell?_setCell_other _ _ _ _ (ne _ _ (by omega))]
              exact hdone.out _ _ rfl j (by omega)
      clear hc hcw hf hfw hsh
      go_wp2_with fail
      go_roundg (gk - 1)
      case rel =>
        refine ⟨k + 1, _, by omega, by go_num, rfl, Lib.hid (by have := hx.out; omega), Lib.hid (fun b' off' e j hj => ?_), ((hmk.put R0 hf0 _).put R1 hf0 _).put R2 hf0 _⟩
        injection e with e
        injection e with e1 e2 _
        subst e1 e2
        exact hR.out j hj
      case measure => omega
    · obtain rfl : k = n := by omega
      go_wp2_with fail
      go_ret
      refine ⟨congrArg (fun z => Ending.returned (.int .i64 z)) hx.out, fun h0 => ?_, hmk⟩
      obtain ⟨b, off, rfl, hs, _⟩ := H.out h0
      exact ⟨b, off, rfl, ⟨hs.1.1, Nat.lt_of_lt_of_le hs.2.1 hmk.size, fun _ i => (hmk.fro b i hs.2.1).trans (hs.2.2 i)⟩, hdone.out b off rfl⟩

set_option maxRecDepth 100000 in
set_option maxHeartbeats 3200000 in
theorem heldDgS_any (lo : Nat) (A0 : Option Addr) (n cap : Nat) (w : World) (hn : n ≤ 1048576) (h : IntsAt lo w A0 (n * 3) (fun j => 1 + (j : Int))) :
    Calls Try.prog 50 #[.slice A0 n cap, .int .i64 1] w fun e w' => e = .returned (.int .i64 (1 + ((n * 3 : Nat) : Int))) ∧ w = w' := by
  have H := Lib.hid h
  clear h
  go_enter Try.func50, Try.ntmps50
  go_wp2_with fail
  go_loopg [1, 5] n (fun q kv iv wr => ∃ (k : Nat) (x : Int), k + q = n ∧ iv = .int .i64 (k : Nat) ∧ kv = .int .i64 x ∧ Hid (x = 1 + ((k * 3 : Nat) : Int)) ∧ w = wr)
  case atStart => exact ⟨0, 1, by omega, rfl, rfl, Lib.hid (by omega), rfl⟩
  case round =>
    obtain ⟨k, x, hkq, rfl, rfl, hx, rfl⟩ := hrel
    by_cases hk0 : k < n
    · obtain ⟨b, off, rfl, hb, r0, r1, r2⟩ := H.out.trio hk0
      have hx0 := hx.out
      rw [show 1 + ((k * 3 : Nat) : Int) = x by omega] at r0
      rw [show 1 + ((k * 3 + 1 : Nat) : Int) = x + 1 by omega] at r1
      rw [show 1 + ((k * 3 + 2 : Nat) : Int) = x + 2 by omega] at r2
      have hx1 : 0 ≤ x ∧ x ≤ 200000000000000000 := by omega
      clear hx0
      have w0 : IntKind.i64.wrap (x + 1) = x + 1 := IntWalk.i64_in _ (by omega)
      have w1 : IntKind.i64.wrap (x + 1 + 1) = x + 2 := by rw [IntWalk.i64_in _ (by omega)]; omega
      have w2 : IntKind.i64.wrap (x + 2 + 1) = x + 3 := by rw [IntWalk.i64_in _ (by omega)]; omega
      have n0 : (x != x) = false := bne_self_eq_false _
      have n1 : (x + 1 != x + 1) = false := bne_self_eq_false _
      have n2 : (x + 2 != x + 2) = false := bne_self_eq_false _
      go_wp2_with fail
      go_roundg (gk - 1)
      case rel => exact ⟨k + 1, _, by omega, by go_num, rfl, Lib.hid (by have := hx.out; omega), rfl⟩
      case measure => omega
    · obtain rfl : k = n := by omega
      go_wp2_with fail
      go_ret
      exact ⟨congrArg (fun z => Ending.returned (.int .i64 z)) hx.out, rfl⟩


theorem Try.infoDg : (Try.prog.info? 86).map (fun i => (i.zero, i.size, i.bytes)) = some (some (.agg #[.int .i64 0, .int .i64 0, .int .i64 0]), 3, 24) := by kernel_rfl

theorem mk_dg (n : Nat) (hn : n ≤ 1048576) (w : World) :
    (Instr.makeSlice 26 (.int .i64 (n : Int)) (.int .i64 (n : Int))).run Try.prog w = .ok (.slice (some ⟨w.heap.size, 0, none⟩) n n) (w.alloc (.cells (madeCells #[.int .i64 0, .int .i64 0, .int .i64 0] (n * 3)) 86)) := by
  obtain ⟨i, hi, hzz⟩ := Option.map_eq_some_iff.1 Try.infoDg
  simp only [Prod.mk.injEq] at hzz
  obtain ⟨hz, hs, hb⟩ := hzz
  have hr := run_make (P := Try.prog) w 26 86 i _ Try.underlying26 hi hz .i64 .i64 n n (by omega) (Int.le_refl _) (by rw [hb]; omega) (by omega)
  simp only [Int.toNat_natCast, hs, Value.cells] at hr
  exact hr

theorem toDgn_any (a b c : Int) (w : World) :
    Calls Try.prog 69 #[.agg #[.int .i64 a, .int .i64 b, .int .i64 c]] w fun e w' => e = .returned (.agg #[.int .i64 a, .int .i64 b, .int .i64 c]) ∧ Below w.heap.size w w' := by
  have hbox := Box.new w 99 #[.int .i64 a, .int .i64 b, .int .i64 c]
  have q0 := hbox.cell 0
  have q1 := hbox.cell 1
  have q2 := hbox.cell 2
  go_enter Try.func69, Try.ntmps69
  go_wp2_with fail
  have hb2 := (Box.new (w.alloc (.cells #[.int .i64 a, .int .i64 b, .int .i64 c] 99)) 86 #[.int .i64 a, .int .i64 b, .int .i64 c]).alloc (.cells #[.int .i64 a, .int .i64 b, .int .i64 c] 86)
  rw [show (w.alloc (.cells #[.int .i64 a, .int .i64 b, .int .i64 c] 99)).heap.size = w.heap.size + 1 by simp] at hb2
  have k0 := hb2.cell 0
  have k1 := hb2.cell 1
  have k2 := hb2.cell 2
  refine bodyPost_ret (v := .agg #[.int .i64 a, .int .i64 b, .int .i64 c]) (by simp [results, Try.results69, go_sem, k0, k1, k2]; done) rfl ⟨rfl, ?_⟩
  exact (((Below.refl _ w).alloc (Nat.le_refl _) _).alloc (by simp) _).alloc (by simp; omega) _

theorem three_at {w : World} {g : Nat} {t : TypeId} {cs : Array Value} (h : Box w g t cs) (i : Nat) (hi : i + 3 ≤ cs.size) :
    w.cell? ⟨g, i, none⟩ = some (cs.getD i undef) ∧ w.cell? ⟨g, i + 1, none⟩ = some (cs.getD (i + 1) undef) ∧ w.cell? ⟨g, i + 2, none⟩ = some (cs.getD (i + 2) undef) ∧
    w.frozen? ⟨g, i, none⟩ = false ∧ w.frozen? ⟨g, i + 1, none⟩ = false ∧ w.frozen? ⟨g, i + 2, none⟩ = false := by
  refine ⟨?_, ?_, ?_, h.free _, h.free _, h.free _⟩
  all_goals rw [h.cell, Array.getD, dif_pos (by omega), Array.getElem?_eq_getElem (by omega)]; rfl

theorem fill3 (k n : Nat) (cs : Array Value) (f : Nat → Int) (hcs : cs.size = n * 3) (hk : k < n) (h : ∀ j, j < k * 3 → cs[j]? = some (.int .i64 (f j))) :
    ∀ j, j < (k + 1) * 3 → (((cs.setIfInBounds (k * 3) (.int .i64 (f (k * 3)))).setIfInBounds (k * 3 + 1) (.int .i64 (f (k * 3 + 1)))).setIfInBounds (k * 3 + 2) (.int .i64 (f (k * 3 + 2))))[j]? = some (.int .i64 (f j)) := by
  intro j hj
  simp only [Array.getElem?_setIfInBounds, Array.size_setIfInBounds]
  by_cases h2 : k * 3 + 2 = j
  · subst h2; rw [if_pos rfl, if_pos (by omega)]
  · rw [if_neg h2]
    by_cases h1 : k * 3 + 1 = j
    · subst h1; rw [if_pos rfl, if_pos (by omega)]
    · rw [if_neg h1]
      by_cases h0 : k * 3 = j
      · subst h0; rw [if_pos rfl, if_pos (by omega)]
      · rw [if_neg h0]; exact h j (by omega)

set_option maxRecDepth 100000 in
set_option maxHeartbeats 1600000 in
theorem toDgS_any (lo : Nat) (A0 : Option Addr) (n cap : Nat) (f : Nat → Int) (w : World) (hn : n ≤ 1048576) (hA : IntsAt lo w A0 (n * 3) f) :
    Calls Try.prog 44 #[.slice A0 n cap] w fun e w' => (∃ g, e = .returned (.slice (some ⟨g, 0, none⟩) n n) ∧ IntsAt w.heap.size w' (some ⟨g, 0, none⟩) (n * 3) f) ∧ Below w.heap.size w w' := by
  have hmk := mk_dg n hn
  have HA := Lib.hid hA; clear hA
  go_enter Try.func44, Try.ntmps44
  go_wp2_with fail
  clear hmk
  obtain ⟨G, hG⟩ : ∃ G, G = w.heap.size := ⟨_, rfl⟩
  rw [← hG]
  have HG := Lib.hid hG; clear hG
  go_loopw [4] (fun i wr => ∃ (k : Nat) (cs : Array Value), (k ≤ n ∧ cs.size = n * 3 ∧ ∀ j, j < k * 3 → cs[j]? = some (.int .i64 (f j))) ∧ Box wr G 86 cs ∧ Below w.heap.size w wr ∧ i = .int .i64 (k : Int)) (fun i _ => ((n : Int) - intOf i).toNat)
  case atStart =>
    refine ⟨0, madeCells #[.int .i64 0, .int .i64 0, .int .i64 0] (n * 3), ⟨by omega, size_madeCells _ _, fun j h => by omega⟩, ?_, ?_, rfl⟩
    · rw [HG.out]; exact Box.new w _ _
    · exact (Below.refl _ w).alloc (Nat.le_refl _) _
  case round =>
    obtain ⟨k, cs, hk', hbx, hB, rfl⟩ := hrel
    obtain ⟨hk, hcs, hfill⟩ := hk'
    have Hfill := Lib.hid hfill; clear hfill
    have HB := Lib.hid hB; clear hB
    by_cases hk0 : k < n
    · have hAw : IntsAt lo wr A0 (n * 3) f := HA.out.below HB.out (Nat.le_refl _)
      obtain ⟨b, off, rfl, hb, r0, r1, r2⟩ := hAw.trio hk0
      have Hb := Lib.hid hb; clear hb hAw
      go_wp2_with (go_at_call 69; refine (toDgn_any _ _ _ _).mono ?_; rintro e w1 ⟨rfl, hb1⟩; replace hbx := hbx.below hb1 hbx.lt; replace HB := Lib.hid (HB.out.trans (hb1.mono HB.out.size)); obtain ⟨k0, k1, k2, f0, f1, f2⟩ := three_at hbx (k * 3) (by omega))
      refine ⟨⟨k + 1, _, ⟨by omega, ?_, ?_⟩, ((hbx.set _ _).set _ _).set _ _, ?_, by simp⟩, by simp [intOf]; omega⟩
      · simp [hcs]
      · exact fill3 k n cs f hcs hk0 Hfill.out
      · have hG2 : w.heap.size ≤ G := by rw [HG.out]; exact Nat.le_refl _
        exact ((HB.out.setCell (p := ⟨G, k * 3, none⟩) hG2 _).setCell (p := ⟨G, k * 3 + 1, none⟩) hG2 _).setCell (p := ⟨G, k * 3 + 2, none⟩) hG2 _
    · obtain rfl : k = n := by omega
      go_wp2_with fail
      go_ret
      refine ⟨⟨G, rfl, ?_⟩, HB.out⟩
      exact IntsAt.of_box (by rw [HG.out]; exact Nat.le_refl _) hbx Hfill.out

/-- A diagram's value. -/
abbrev dgV (L : Int) (A : Option Addr) (n c : Nat) (r : Int) : Value := .agg #[.int .i64 L, .slice A n c, .int .i64 r]

theorem Box.trio {w : World} {g : Nat} {t : TypeId} {a b c : Value} (h : Box w g t #[a, b, c]) : w.cell? ⟨g, 0, none⟩ = some a ∧ w.cell? ⟨g, 1, none⟩ = some b ∧ w.cell? ⟨g, 2, none⟩ = some c := ⟨h.cell 0, h.cell 1, h.cell 2⟩

theorem Box.far3 {w : World} {g H : Nat} {t : TypeId} {cs : Array Value} (h : Box w g t cs) (hne : H ≠ g) (i : Nat) (u : Value) : Box (w.setCell ⟨H, i, none⟩ u) g t cs := (Below.heap_setCell w ⟨H, i, none⟩ u g (by show g ≠ H; omega)).trans h

set_option maxRecDepth 100000 in
set_option maxHeartbeats 1600000 in
theorem toDg_any (lo : Nat) (L r : Int) (A0 : Option Addr) (n cap : Nat) (f : Nat → Int) (w : World) (hn : n ≤ 1048576) (h : IntsAt lo w A0 (n * 3) f) :
    Calls Try.prog 11 #[dgV L A0 n cap r] w fun e w' => (∃ g, e = .returned (dgV L (some ⟨g, 0, none⟩) n n r) ∧ IntsAt w.heap.size w' (some ⟨g, 0, none⟩) (n * 3) f) ∧ Below w.heap.size w w' := by
  have e0 : ∀ (W : World) (o : Obj), (W.alloc o).heap.size = W.heap.size + 1 := fun W o => by simp
  have hP := ((Box.new w 24 #[.int .i64 L, .slice A0 n cap, .int .i64 r]).alloc (.cells #[.int .i64 0, .slice none 0 0, .int .i64 0] 28)).alloc (.cells #[.int .i64 L, .slice none 0 0, .int .i64 0] 28)
  have hR := (Box.new (w.alloc (.cells #[.int .i64 L, .slice A0 n cap, .int .i64 r] 24)) 28 #[.int .i64 0, .slice none 0 0, .int .i64 0]).alloc (.cells #[.int .i64 L, .slice none 0 0, .int .i64 0] 28)
  have hO := Box.new ((w.alloc (.cells #[.int .i64 L, .slice A0 n cap, .int .i64 r] 24)).alloc (.cells #[.int .i64 0, .slice none 0 0, .int .i64 0] 28)) 28 #[.int .i64 L, .slice none 0 0, .int .i64 0]
  rw [e0] at hR
  rw [e0, e0] at hO
  have hB := (((Below.refl w.heap.size w).alloc (Nat.le_refl _) (.cells #[.int .i64 L, .slice A0 n cap, .int .i64 r] 24)).alloc (by simp) (.cells #[.int .i64 0, .slice none 0 0, .int .i64 0] 28)).alloc (by simp; omega) (.cells #[.int .i64 L, .slice none 0 0, .int .i64 0] 28)
  have C : Hid (∀ W, Below w.heap.size w W → _) := Lib.hid fun W hW => toDgS_any lo A0 n cap f W hn (h.below hW (Nat.le_refl _))
  clear h
  obtain ⟨q0, q1, q2⟩ := (Box.new w 24 #[.int .i64 L, .slice A0 n cap, .int .i64 r]).trio
  obtain ⟨p0, p1, p2⟩ := hP.trio
  go_enter Try.func11, Try.ntmps11
  go_upto_region 4 with (go_at_call 44; refine (C.out _ hB).mono ?_; rintro e w1 ⟨⟨g, rfl, hg⟩, hb1⟩; replace hg := hg.low (show w.heap.size + 1 + 1 + 1 ≤ _ by rw [e0, e0, e0]; exact Nat.le_refl _); clear q0 q1 q2 p0 p1 p2; have hP1 := hP.below hb1 hP.lt; have hO1 := hO.below hb1 hO.lt; have hR1 := hR.below hb1 hR.lt; have hB1 := hB.trans (hb1.mono hB.size); obtain ⟨z0, z1, z2, y0, y1, y2⟩ := hO1.three)
  have hO2 : Box _ (w.heap.size + 1 + 1) 28 #[.int .i64 L, .slice (some ⟨g, 0, none⟩) n n, .int .i64 0] := hO1.set 1 (.slice (some ⟨g, 0, none⟩) n n)
  have hR2 := hR1.far3 (show w.heap.size + 1 + 1 ≠ w.heap.size + 1 by omega) 1 (.slice (some ⟨g, 0, none⟩) n n)
  have hP2 := hP1.far3 (show w.heap.size + 1 + 1 ≠ w.heap.size by omega) 1 (.slice (some ⟨g, 0, none⟩) n n)
  have hB2 := hB1.setCell (p := ⟨w.heap.size + 1 + 1, 1, none⟩) (by show w.heap.size ≤ w.heap.size + 1 + 1; omega) (.slice (some ⟨g, 0, none⟩) n n)
  have hg2 := hg.keep (.set w1 (H := w.heap.size + 1 + 1) (by omega) 1 (.slice (some ⟨g, 0, none⟩) n n))
  clear hO hR hP hB hg hO1 hR1 hP1 hB1 hb1 z0 z1 z2 y0 y1 y2
  generalize hW : World.setCell _ _ _ = W2 at hO2 hR2 hP2 hB2 hg2 ⊢
  clear hW
  obtain ⟨q0, q1, q2⟩ := hP2.trio
  obtain ⟨z0, z1, z2, y0, y1, y2⟩ := hO2.three
  go_upto_region 5 with fail
  have hO4 : Box _ (w.heap.size + 1 + 1) 28 #[.int .i64 L, .slice (some ⟨g, 0, none⟩) n n, .int .i64 r] := hO2.set 2 (.int .i64 r)
  have hR4 := hR2.far3 (show w.heap.size + 1 + 1 ≠ w.heap.size + 1 by omega) 2 (.int .i64 r)
  have hB4 := hB2.setCell (p := ⟨w.heap.size + 1 + 1, 2, none⟩) (by show w.heap.size ≤ w.heap.size + 1 + 1; omega) (.int .i64 r)
  have hg4 := hg2.keep (.set W2 (H := w.heap.size + 1 + 1) (by omega) 2 (.int .i64 r))
  clear hO2 hR2 hP2 hB2 hg2 q0 q1 q2 z0 z1 z2 y0 y1 y2
  generalize hW : World.setCell _ _ _ = W4 at hO4 hR4 hB4 hg4 ⊢
  clear hW
  obtain ⟨m0, m1, m2⟩ := hO4.trio
  obtain ⟨n0, n1, n2, f0, f1, f2⟩ := hR4.three
  go_wp2_with fail
  have hR5 : Box _ (w.heap.size + 1) 28 #[.int .i64 L, .slice (some ⟨g, 0, none⟩) n n, .int .i64 r] := ((hR4.set 0 (.int .i64 L)).set 1 (.slice (some ⟨g, 0, none⟩) n n)).set 2 (.int .i64 r)
  obtain ⟨l0, l1, l2⟩ := hR5.trio
  refine bodyPost_ret (v := dgV L (some ⟨g, 0, none⟩) n n r) (by simp [results, Try.results11, go_sem, l0, l1, l2]; done) rfl ⟨⟨g, rfl, ?_⟩, ?_⟩
  · exact (((hg4.keep (.set _ (by omega) _ _)).keep (.set _ (by omega) _ _)).keep (.set _ (by omega) _ _)).low (by omega)
  · exact ((hB4.setCell (p := ⟨_, 0, none⟩) (by show w.heap.size ≤ w.heap.size + 1; omega) _).setCell (p := ⟨_, 1, none⟩) (by show w.heap.size ≤ w.heap.size + 1; omega) _).setCell (p := ⟨_, 2, none⟩) (by show w.heap.size ≤ w.heap.size + 1; omega) _

set_option maxRecDepth 100000 in
theorem szDg_any (L r : Int) (A0 : Option Addr) (n cap : Nat) (left : Int) (w : World) (hn : n ≤ 9223372036854775807) (h0 : 0 ≤ left) (h1 : left ≤ 1048576) :
    Calls Try.prog 9 #[dgV L A0 n cap r, .int .i64 left] w fun e w' => (∃ z : Int, e = .returned (.int .i64 z) ∧ Hid (z ≤ left ∧ (0 ≤ z → n ≤ 1048576))) ∧ Below w.heap.size w w' := by
  have C : Hid (∀ W, Calls Try.prog 38 #[.slice A0 n cap, .int .i64 left] W fun e w' => (∃ z : Int, e = .returned (.int .i64 z) ∧ (z = -1 ∨ (0 ≤ z ∧ z = left - n))) ∧ W = w') := Lib.hid fun W => by
    by_cases h : (n : Int) ≤ left
    · have h2 : ¬ (left - (n : Int) < 0) := by omega
      go_enter Try.func38, Try.ntmps38
      go_wp2_with fail
      all_goals first
        | (exfalso; omega)
        | (go_ret; exact ⟨⟨_, rfl, .inr ⟨by omega, rfl⟩⟩, rfl⟩)
    · have h2 : left - (n : Int) < 0 := by omega
      go_enter Try.func38, Try.ntmps38
      go_wp2_with fail
      all_goals first
        | (exfalso; omega)
        | (go_ret; exact ⟨⟨-1, rfl, .inl rfl⟩, rfl⟩)
  have hP := Box.new w 24 #[.int .i64 L, .slice A0 n cap, .int .i64 r]
  obtain ⟨q0, q1, q2⟩ := hP.trio
  go_enter Try.func9, Try.ntmps9
  go_wp2_with (go_at_call 38; refine (C.out _).mono ?_; rintro e w1 ⟨⟨z, rfl, hz⟩, rfl⟩)
  all_goals go_ret
  all_goals exact ⟨⟨_, rfl, Lib.hid ⟨by omega, by omega⟩⟩, (Below.refl _ w).alloc (Nat.le_refl _) _⟩

set_option maxRecDepth 100000 in
set_option maxHeartbeats 1600000 in
theorem eqDg_any (lo lo' : Nat) (L r : Int) (A0 A1 : Option Addr) (n c0 c1 : Nat) (f : Nat → Int) (w : World) (hn : n ≤ 1048576) (h0 : IntsAt lo w A0 (n * 3) f) (h1 : IntsAt lo' w A1 (n * 3) f) :
    Calls Try.prog 13 #[dgV L A0 n c0 r, dgV L A1 n c1 r] w fun e w' => e = .returned (.bool true) ∧ Below w.heap.size w w' := by
  have hP := (Box.new w 28 #[.int .i64 L, .slice A0 n c0, .int .i64 r]).alloc (.cells #[.int .i64 L, .slice A1 n c1, .int .i64 r] 28)
  have hQ := Box.new (w.alloc (.cells #[.int .i64 L, .slice A0 n c0, .int .i64 r] 28)) 28 #[.int .i64 L, .slice A1 n c1, .int .i64 r]
  rw [show (w.alloc (.cells #[.int .i64 L, .slice A0 n c0, .int .i64 r] 28)).heap.size = w.heap.size + 1 by simp] at hQ
  have hB : Below w.heap.size w ((w.alloc (.cells #[.int .i64 L, .slice A0 n c0, .int .i64 r] 28)).alloc (.cells #[.int .i64 L, .slice A1 n c1, .int .i64 r] 28)) := ((Below.refl _ w).alloc (Nat.le_refl _) _).alloc (by simp) _
  obtain ⟨q0, q1, q2⟩ := hP.trio
  obtain ⟨u0, u1, u2⟩ := hQ.trio
  have nL : (L != L) = false := bne_self_eq_false _
  have nR : (r != r) = false := bne_self_eq_false _
  have C : Hid (∀ W, Below w.heap.size w W → _) := Lib.hid fun W hW => eqDgS_any lo lo' A0 A1 n c0 c1 f W hn (h0.below hW (Nat.le_refl _)) (h1.below hW (Nat.le_refl _))
  clear h0 h1
  go_enter Try.func13, Try.ntmps13
  go_wp2_with (go_at_call 48
               with_reducible refine (C.out _ hB).mono ?_
               rintro e w1 ⟨rfl, hb⟩
               clear q0 q1 q2 u0 u1 u2
               replace hP := hP.below hb hP.lt
               replace hQ := hQ.below hb hQ.lt
               replace hB := hB.trans (hb.mono hB.size)
               obtain ⟨q0, q1, q2⟩ := hP.trio
               obtain ⟨u0, u1, u2⟩ := hQ.trio)
  go_ret
  exact ⟨rfl, hB⟩

set_option maxRecDepth 100000 in
theorem markDg_any (lo hi : Nat) (L r : Int) (A0 : Option Addr) (n cap : Nat) (w : World) (hn : n ≤ 1048576) (h : ShI lo hi w A0 (n * 3)) :
    Calls Try.prog 14 #[dgV L A0 n cap r, .int .i64 1] w fun e w' => e = .returned (.int .i64 (1 + ((n * 3 : Nat) : Int))) ∧ IntsAt lo w' A0 (n * 3) (fun j => 1 + (j : Int)) ∧ Marks lo hi w w' := by
  have hP := Box.new w 28 #[.int .i64 L, .slice A0 n cap, .int .i64 r]
  obtain ⟨q0, q1, q2⟩ := hP.trio
  have hB := (Below.refl w.heap.size w).alloc (Nat.le_refl _) (.cells #[.int .i64 L, .slice A0 n cap, .int .i64 r] 28)
  have C : Hid _ := Lib.hid (markDgS_any lo hi A0 n cap _ hn (h.marks (.of_below (lo := lo) (hi := hi) hB)))
  clear h
  go_enter Try.func14, Try.ntmps14
  go_wp2_with (go_at_call 49; refine C.out.mono ?_; rintro e w1 ⟨rfl, hi, hm⟩)
  go_ret
  exact ⟨rfl, hi, (Marks.of_below hB).trans hm⟩

set_option maxRecDepth 100000 in
theorem heldDg_any (lo : Nat) (L r : Int) (A0 : Option Addr) (n cap : Nat) (w : World) (hn : n ≤ 1048576) (h : IntsAt lo w A0 (n * 3) (fun j => 1 + (j : Int))) :
    Calls Try.prog 15 #[dgV L A0 n cap r, .int .i64 1] w fun e w' => e = .returned (.int .i64 (1 + ((n * 3 : Nat) : Int))) ∧ Below w.heap.size w w' := by
  have hP := Box.new w 28 #[.int .i64 L, .slice A0 n cap, .int .i64 r]
  obtain ⟨q0, q1, q2⟩ := hP.trio
  have hB := (Below.refl w.heap.size w).alloc (Nat.le_refl _) (.cells #[.int .i64 L, .slice A0 n cap, .int .i64 r] 28)
  have C : Hid _ := Lib.hid (heldDgS_any lo A0 n cap _ hn (h.below hB (Nat.le_refl _)))
  clear h
  obtain ⟨M, hM⟩ : ∃ M : Int, M = 1 + ((n * 3 : Nat) : Int) := ⟨_, rfl⟩
  rw [← hM] at C ⊢
  have hM0 : 0 ≤ M := by omega
  clear hM
  go_enter Try.func15, Try.ntmps15
  go_wp2_with (go_at_call 50; refine C.out.mono ?_; rintro e w1 ⟨rfl, rfl⟩)
  go_ret
  exact ⟨rfl, hB⟩

end Go.Proofs.Ytamjfcckgeakfaa
