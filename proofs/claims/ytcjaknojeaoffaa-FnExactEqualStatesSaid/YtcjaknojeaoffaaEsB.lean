/-
  Lists of weighted states: the law's copies.
-/
import Derived.Test.YtcjaknojeaoffaaEsA
namespace Go.Proofs.Ytcjaknojeaoffaa
open Go.RowKit Num

set_option maxRecDepth 100000 in
set_option maxHeartbeats 1600000 in
theorem toWt_any (lo : Nat) (A1 : Option Addr) (m c1 : Nat) (f : Nat → Int) (b : Bool) (x y : ByteArray) (w : World) (hm : m ≤ 1048576) (h : IntsAt lo w A1 m f) :
    Calls Try.prog 11 #[.agg #[.slice A1 m c1, .bool b, .string x, .string y]] w fun e w' => (∃ g, e = .returned (.agg #[.slice (some ⟨g, 0, none⟩) m m, .bool b, .string x, .string y]) ∧ IntsAt w.heap.size w' (some ⟨g, 0, none⟩) m f) ∧ Below w.heap.size w w' := by
  have e0 : ∀ (W : World) (o : Obj), (W.alloc o).heap.size = W.heap.size + 1 := fun W o => by simp
  have hP := ((Box.new w 33 #[.slice A1 m c1, .bool b, .string x, .string y]).alloc (.cells #[.slice none 0 0, .bool false, .string ⟨#[]⟩, .string ⟨#[]⟩] 36)).alloc (.cells #[.slice none 0 0, .bool false, .string ⟨#[]⟩, .string ⟨#[]⟩] 36)
  have hR := (Box.new (w.alloc (.cells #[.slice A1 m c1, .bool b, .string x, .string y] 33)) 36 #[.slice none 0 0, .bool false, .string ⟨#[]⟩, .string ⟨#[]⟩]).alloc (.cells #[.slice none 0 0, .bool false, .string ⟨#[]⟩, .string ⟨#[]⟩] 36)
  have hO := Box.new ((w.alloc (.cells #[.slice A1 m c1, .bool b, .string x, .string y] 33)).alloc (.cells #[.slice none 0 0, .bool false, .string ⟨#[]⟩, .string ⟨#[]⟩] 36)) 36 #[.slice none 0 0, .bool false, .string ⟨#[]⟩, .string ⟨#[]⟩]
  rw [e0] at hR
  rw [e0, e0] at hO
  have hB := (((Below.refl w.heap.size w).alloc (Nat.le_refl _) (.cells #[.slice A1 m c1, .bool b, .string x, .string y] 33)).alloc (by simp) (.cells #[.slice none 0 0, .bool false, .string ⟨#[]⟩, .string ⟨#[]⟩] 36)).alloc (by simp; omega) (.cells #[.slice none 0 0, .bool false, .string ⟨#[]⟩, .string ⟨#[]⟩] 36)
  have C : Hid (∀ W, Below w.heap.size w W → _) := Lib.hid fun W hW => toIntS_any lo A1 m c1 f W hm (h.below hW (Nat.le_refl _))
  have C2 : Hid (∀ W, _) := Lib.hid fun W => toRatW_any b x y W
  clear h
  obtain ⟨q0, q1, q2, q3, _⟩ := hP.fourW
  go_enter Try.func11, Try.ntmps11
  go_upto_region 3 with (go_at_call 18; refine (C.out _ hB).mono ?_; rintro e w1 ⟨⟨g, rfl, hg⟩, hb1⟩; replace hg := hg.low (show w.heap.size + 1 + 1 + 1 ≤ _ by rw [e0, e0, e0]; exact Nat.le_refl _); clear q0 q1 q2 q3; have hP1 := hP.below hb1 hP.lt; have hO1 := hO.below hb1 hO.lt; have hR1 := hR.below hb1 hR.lt; have hB1 := hB.trans (hb1.mono hB.size); obtain ⟨z0, z1, z2, z3, zf⟩ := hO1.fourW)
  have hO2 : Box _ (w.heap.size + 1 + 1) 36 #[.slice (some ⟨g, 0, none⟩) m m, .bool false, .string ⟨#[]⟩, .string ⟨#[]⟩] := hO1.set 0 (.slice (some ⟨g, 0, none⟩) m m)
  have hR2 := hR1.far (show w.heap.size + 1 + 1 ≠ w.heap.size + 1 by omega) 0 (.slice (some ⟨g, 0, none⟩) m m)
  have hP2 := hP1.far (show w.heap.size + 1 + 1 ≠ w.heap.size by omega) 0 (.slice (some ⟨g, 0, none⟩) m m)
  have hB2 := hB1.setCell (p := ⟨w.heap.size + 1 + 1, 0, none⟩) (by show w.heap.size ≤ w.heap.size + 1 + 1; omega) (.slice (some ⟨g, 0, none⟩) m m)
  have hg2 := hg.keep (.set w1 (H := w.heap.size + 1 + 1) (by omega) 0 (.slice (some ⟨g, 0, none⟩) m m))
  clear hO hR hP hB hg hO1 hR1 hP1 hB1 hb1 z0 z1 z2 z3 zf
  generalize hW : World.setCell _ _ _ = W2 at hO2 hR2 hP2 hB2 hg2 ⊢
  clear hW
  obtain ⟨q0, q1, q2, q3, _⟩ := hP2.fourW
  go_upto_region 4 with (go_at_call 19; refine (C2.out _).mono ?_; rintro e w3 ⟨rfl, hb1⟩; clear q0 q1 q2 q3; have hO3 := hO2.below hb1 hO2.lt; have hR3 := hR2.below hb1 hR2.lt; have hg3 := hg2.below hb1 (Nat.le_refl _); have hB3 := hB2.trans (hb1.mono hB2.size); obtain ⟨z0, z1, z2, z3, zf⟩ := hO3.fourW)
  have hO4 : Box _ (w.heap.size + 1 + 1) 36 #[.slice (some ⟨g, 0, none⟩) m m, .bool b, .string x, .string y] := ((hO3.set 1 (.bool b)).set 2 (.string x)).set 3 (.string y)
  have hR4 := ((hR3.far (show w.heap.size + 1 + 1 ≠ w.heap.size + 1 by omega) 1 (.bool b)).far (show w.heap.size + 1 + 1 ≠ w.heap.size + 1 by omega) 2 (.string x)).far (show w.heap.size + 1 + 1 ≠ w.heap.size + 1 by omega) 3 (.string y)
  have hB4 := ((hB3.setCell (p := ⟨w.heap.size + 1 + 1, 1, none⟩) (by show w.heap.size ≤ w.heap.size + 1 + 1; omega) (.bool b)).setCell (p := ⟨w.heap.size + 1 + 1, 2, none⟩) (by show w.heap.size ≤ w.heap.size + 1 + 1; omega) (.string x)).setCell (p := ⟨w.heap.size + 1 + 1, 3, none⟩) (by show w.heap.size ≤ w.heap.size + 1 + 1; omega) (.string y)
  have hg4 := ((hg3.keep (.set w3 (H := w.heap.size + 1 + 1) (by omega) 1 (.bool b))).keep (.set _ (H := w.heap.size + 1 + 1) (by omega) 2 (.string x))).keep (.set _ (H := w.heap.size + 1 + 1) (by omega) 3 (.string y))
  clear hO2 hR2 hP2 hB2 hg2 hO3 hR3 hB3 hg3 hb1 z0 z1 z2 z3 zf
  generalize hW : World.setCell _ _ _ = W4 at hO4 hR4 hB4 hg4 ⊢
  clear hW
  obtain ⟨m0, m1, m2, m3, _⟩ := hO4.fourW
  obtain ⟨n0, n1, n2, n3, nf⟩ := hR4.fourW
  go_wp2_with fail
  have hR5 : Box _ (w.heap.size + 1) 36 #[.slice (some ⟨g, 0, none⟩) m m, .bool b, .string x, .string y] := (((hR4.set 0 (.slice (some ⟨g, 0, none⟩) m m)).set 1 (.bool b)).set 2 (.string x)).set 3 (.string y)
  obtain ⟨l0, l1, l2, l3, _⟩ := hR5.fourW
  refine bodyPost_ret (v := .agg #[.slice (some ⟨g, 0, none⟩) m m, .bool b, .string x, .string y]) (by simp [results, Try.results11, go_sem, l0, l1, l2, l3]; done) rfl ⟨⟨g, rfl, ?_⟩, ?_⟩
  · exact ((((hg4.keep (.set _ (by omega) _ _)).keep (.set _ (by omega) _ _)).keep (.set _ (by omega) _ _)).keep (.set _ (by omega) _ _)).low (by omega)
  · exact (((hB4.setCell (p := ⟨_, 0, none⟩) (by show w.heap.size ≤ w.heap.size + 1; omega) _).setCell (p := ⟨_, 1, none⟩) (by show w.heap.size ≤ w.heap.size + 1; omega) _).setCell (p := ⟨_, 2, none⟩) (by show w.heap.size ≤ w.heap.size + 1; omega) _).setCell (p := ⟨_, 3, none⟩) (by show w.heap.size ≤ w.heap.size + 1; omega) _

theorem Try.infoWt : (Try.prog.info? 36).map (fun i => (i.zero, i.size, i.bytes)) = some (some (.agg #[.slice none 0 0, .bool false, .string ⟨#[]⟩, .string ⟨#[]⟩]), 4, 64) := by kernel_rfl

theorem mk_Wt (n : Nat) (hn : n ≤ 1048576) (w : World) :
    (Instr.makeSlice 25 (.int .i64 (n : Int)) (.int .i64 (n : Int))).run Try.prog w = .ok (.slice (some ⟨w.heap.size, 0, none⟩) n n) (w.alloc (.cells (madeCells #[.slice none 0 0, .bool false, .string ⟨#[]⟩, .string ⟨#[]⟩] (n * 4)) 36)) := by
  obtain ⟨i, hi, hzz⟩ := Option.map_eq_some_iff.1 Try.infoWt
  simp only [Prod.mk.injEq] at hzz
  obtain ⟨hz, hs, hb⟩ := hzz
  have hr := run_make (P := Try.prog) w 25 36 i _ Try.underlying25 hi hz .i64 .i64 n n (by omega) (Int.le_refl _) (by rw [hb]; omega) (by omega)
  simp only [Int.toNat_natCast, hs, Value.cells] at hr
  exact hr

theorem four_atW {w : World} {g : Nat} {t : TypeId} {cs : Array Value} (h : Box w g t cs) (i : Nat) (hi : i + 4 ≤ cs.size) :
    w.cell? ⟨g, i, none⟩ = some (cs.getD i undef) ∧ w.cell? ⟨g, i + 1, none⟩ = some (cs.getD (i + 1) undef) ∧ w.cell? ⟨g, i + 2, none⟩ = some (cs.getD (i + 2) undef) ∧ w.cell? ⟨g, i + 3, none⟩ = some (cs.getD (i + 3) undef) ∧
    w.frozen? ⟨g, i, none⟩ = false ∧ w.frozen? ⟨g, i + 1, none⟩ = false ∧ w.frozen? ⟨g, i + 2, none⟩ = false ∧ w.frozen? ⟨g, i + 3, none⟩ = false := by
  refine ⟨?_, ?_, ?_, ?_, h.free _, h.free _, h.free _, h.free _⟩
  all_goals rw [h.cell, Array.getD, dif_pos (by omega), Array.getElem?_eq_getElem (by omega)]; rfl

theorem fill4W {Q : Nat → (Nat → Value) → Prop} {k n : Nat} {cs : Array Value} (hcs : cs.size = n * 4) (hk : k < n) (h : ∀ j, j < k → ∃ C : Nat → Value, Q j C ∧ ∀ c, c < 4 → cs[j * 4 + c]? = some (C c)) (D : Nat → Value) (hD : Q k D) :
    ∀ j, j < k + 1 → ∃ C : Nat → Value, Q j C ∧ ∀ c, c < 4 → ((((cs.setIfInBounds (k * 4) (D 0)).setIfInBounds (k * 4 + 1) (D 1)).setIfInBounds (k * 4 + 2) (D 2)).setIfInBounds (k * 4 + 3) (D 3))[j * 4 + c]? = some (C c) := by
  intro j hj
  by_cases hjk : j < k
  · obtain ⟨C, hC, hc⟩ := h j hjk
    refine ⟨C, hC, fun c hc' => ?_⟩
    simp only [Array.getElem?_setIfInBounds, Array.size_setIfInBounds]
    rw [if_neg (by omega), if_neg (by omega), if_neg (by omega), if_neg (by omega)]
    exact hc c hc'
  · obtain rfl : j = k := by omega
    refine ⟨D, hD, fun c hc' => ?_⟩
    simp only [Array.getElem?_setIfInBounds, Array.size_setIfInBounds]
    match c, hc' with
    | 0, _ => rw [if_neg (by omega), if_neg (by omega), if_neg (by omega), if_pos (by omega), if_pos (by omega)]
    | 1, _ => rw [if_neg (by omega), if_neg (by omega), if_pos (by omega), if_pos (by omega)]
    | 2, _ => rw [if_neg (by omega), if_pos (by omega), if_pos (by omega)]
    | 3, _ => rw [if_pos (by omega), if_pos (by omega)]

set_option maxRecDepth 100000 in
set_option maxHeartbeats 3200000 in
theorem toWtS_any (lo : Nat) (A0 : Option Addr) (n cap : Nat) (wl : Nat → Nat) (wv : Nat → Nat → Int) (wq : Nat → Bool × ByteArray × ByteArray) (w : World) (hn : n ≤ 1048576) (hA : WtAt lo w A0 n wl wv wq) (hs : ∀ j, j < n → wl j ≤ 1048576) :
    Calls Try.prog 6 #[.slice A0 n cap] w fun e w' => (∃ g, e = .returned (.slice (some ⟨g, 0, none⟩) n n) ∧ WtAt w.heap.size w' (some ⟨g, 0, none⟩) n wl wv wq) ∧ Below w.heap.size w w' := by
  have hmk := mk_Wt n hn
  have HA := Lib.hid hA; clear hA
  have HS := Lib.hid hs; clear hs
  go_enter Try.func6, Try.ntmps6
  go_wp2_with fail
  clear hmk
  obtain ⟨G, hG⟩ : ∃ G, G = w.heap.size := ⟨_, rfl⟩
  rw [← hG]
  have HG := Lib.hid hG; clear hG
  go_loopw [4] (fun i wr => ∃ (k : Nat) (cs : Array Value), (k ≤ n ∧ cs.size = n * 4 ∧ ∀ j, j < k → ∃ C : Nat → Value, WtR (G + 1) wl wv wq wr j C ∧ ∀ c, c < 4 → cs[j * 4 + c]? = some (C c)) ∧ Box wr G 36 cs ∧ Below w.heap.size w wr ∧ i = .int .i64 (k : Int)) (fun i _ => ((n : Int) - intOf i).toNat)
  case atStart =>
    refine ⟨0, madeCells #[.slice none 0 0, .bool false, .string ⟨#[]⟩, .string ⟨#[]⟩] (n * 4), ⟨by omega, size_madeCells _ _, fun j h => by omega⟩, ?_, ?_, rfl⟩
    · rw [HG.out]; exact Box.new w _ _
    · exact (Below.refl _ w).alloc (Nat.le_refl _) _
  case round =>
    obtain ⟨k, cs, hk', hbx, hB, rfl⟩ := hrel
    obtain ⟨hk, hcs, hfill⟩ := hk'
    have Hfill := Lib.hid hfill; clear hfill
    have HB := Lib.hid hB; clear hB
    by_cases hk0 : k < n
    · have hAw : WtAt lo wr A0 n wl wv wq := HA.out.below HB.out (Nat.le_refl _)
      obtain ⟨b, off, A1, c1, rfl, hb, r0, r1, r2, r3, g1⟩ := hAw.at_ hk0
      have C := Lib.hid (toWt_any lo A1 (wl k) c1 (wv k) (wq k).1 (wq k).2.1 (wq k).2.2 wr (HS.out k hk0) g1)
      clear g1
      have Hb := Lib.hid hb; clear hb hAw
      have hGr : G + 1 ≤ wr.heap.size := hbx.lt
      go_wp2_with (go_at_call 11; refine C.out.mono ?_; rintro e w1 ⟨⟨g, rfl, hg⟩, hb1⟩; replace hbx := hbx.below hb1 hbx.lt; have Hb1 := Lib.hid hb1; replace HB := Lib.hid (HB.out.trans (hb1.mono HB.out.size)); clear hb1; obtain ⟨k0, k1, k2, k3, f0, f1, f2, f3⟩ := four_atW hbx (k * 4) (by omega))
      have hK : Keeps (G + 1) wr ((((w1.setCell ⟨G, k * 4, none⟩ (.slice (some ⟨g, 0, none⟩) (wl k) (wl k))).setCell ⟨G, k * 4 + 1, none⟩ (.bool (wq k).1)).setCell ⟨G, k * 4 + 2, none⟩ (.string (wq k).2.1)).setCell ⟨G, k * 4 + 3, none⟩ (.string (wq k).2.2)) := (((((Keeps.of_below Hb1.out (Nat.le_refl _)).trans (.set _ (Nat.lt_succ_self G) _ _)).trans (.set _ (Nat.lt_succ_self G) _ _)).trans (.set _ (Nat.lt_succ_self G) _ _)).trans (.set _ (Nat.lt_succ_self G) _ _))
      refine ⟨⟨k + 1, _, ⟨by omega, ?_, ?_⟩, (((hbx.set _ _).set _ _).set _ _).set _ _, ?_, by simp⟩, by simp [intOf]; omega⟩
      · simp [hcs]
      · exact fill4W (Q := fun j C => WtR (G + 1) wl wv wq ((((w1.setCell ⟨G, k * 4, none⟩ (.slice (some ⟨g, 0, none⟩) (wl k) (wl k))).setCell ⟨G, k * 4 + 1, none⟩ (.bool (wq k).1)).setCell ⟨G, k * 4 + 2, none⟩ (.string (wq k).2.1)).setCell ⟨G, k * 4 + 3, none⟩ (.string (wq k).2.2)) j C) hcs hk0 (fun j hj => by
          obtain ⟨C, hC, hc⟩ := Hfill.out j hj
          exact ⟨C, WtR.stays _ wl wv wq _ _ _ _ hC hK, hc⟩) (fun c => match c with | 0 => .slice (some ⟨g, 0, none⟩) (wl k) (wl k) | 1 => .bool (wq k).1 | 2 => .string (wq k).2.1 | _ => .string (wq k).2.2) ⟨⟨_, _, rfl, ((((hg.low hGr).keep (.set _ (Nat.lt_succ_self G) _ _)).keep (.set _ (Nat.lt_succ_self G) _ _)).keep (.set _ (Nat.lt_succ_self G) _ _)).keep (.set _ (Nat.lt_succ_self G) _ _)⟩, rfl, rfl, rfl⟩
      · have hG2 : w.heap.size ≤ G := by rw [HG.out]; exact Nat.le_refl _
        exact (((HB.out.setCell (p := ⟨G, k * 4, none⟩) hG2 _).setCell (p := ⟨G, k * 4 + 1, none⟩) hG2 _).setCell (p := ⟨G, k * 4 + 2, none⟩) hG2 _).setCell (p := ⟨G, k * 4 + 3, none⟩) hG2 _
    · obtain rfl : k = n := by omega
      go_wp2_with fail
      go_ret
      refine ⟨⟨G, rfl, ?_⟩, HB.out⟩
      rw [← HG.out]
      exact Arr.low (fun j C h => WtR.low h (by omega)) (Arr.of_box (Nat.le_refl G) hbx Hfill.out) (Nat.le_refl G)

end Go.Proofs.Ytcjaknojeaoffaa
