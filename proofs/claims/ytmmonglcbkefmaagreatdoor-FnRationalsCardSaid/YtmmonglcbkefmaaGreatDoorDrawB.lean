/-
  The model's drawing of two Rats.
-/
import Derived.Test.YtmmonglcbkefmaaGreatDoorDrawA
namespace Go.Proofs.YtmmonglcbkefmaaGreatDoor
open Go.RowKit Num

theorem cur_new {w W : World} {A : Option Addr} {n c : Nat} (hn : n ≤ 9223372036854775807) (h : BytesAt w A n w.heap.size) (hW : Below w.heap.size w W) : Cur (W.alloc (.cells #[.slice A n c, .int .i64 0, .int .u64 0] 56)) W.heap.size 0 := by
  have hs := hW.size
  have hb := hW.alloc hW.size (.cells #[.slice A n c, .int .i64 0, .int .u64 0] 56)
  refine ⟨A, n, c, 0, 0, hn, Box.new W _ _, Nat.le_refl _, fun h0 => ?_⟩
  obtain ⟨b, off, rfl, h1, h2, h3⟩ := h h0
  refine ⟨b, off, rfl, by omega, by simp; omega, fun j hj => ?_⟩
  obtain ⟨z, hz, hc⟩ := h3 j hj
  exact ⟨z, hz, (hb.cell (p := ⟨b, off + j, none⟩) h2).trans hc⟩

theorem Box.far3 {w : World} {b H : Nat} {t : TypeId} {cs : Array Value} (h : Box w b t cs) (hne : b ≠ H) (x y z : Value) : Box (((w.setCell ⟨H, 0, none⟩ x).setCell ⟨H, 1, none⟩ y).setCell ⟨H, 2, none⟩ z) b t cs :=
  (Below.heap_setCell _ _ _ _ hne).trans ((Below.heap_setCell _ _ _ _ hne).trans ((Below.heap_setCell _ _ _ _ hne).trans h))

theorem Box.into3 {w : World} {g : Nat} {t : TypeId} {a b c : Value} (h : Box w g t #[a, b, c]) (x y z : Value) : Box (((w.setCell ⟨g, 0, none⟩ x).setCell ⟨g, 1, none⟩ y).setCell ⟨g, 2, none⟩ z) g t #[x, y, z] := ((h.set 0 x).set 1 y).set 2 z

abbrev noR : Array Value := #[.bool false, .string ⟨#[]⟩, .string ⟨#[]⟩]

set_option maxRecDepth 100000 in
set_option maxHeartbeats 1600000 in
theorem drawAdd_any (A : Option Addr) (n c : Nat) (w : World) (hn : n ≤ 9223372036854775807) (hA : BytesAt w A n w.heap.size) :
    Calls Tryz.prog 6 #[.slice A n c] w fun e w' => (∃ b1 x1 y1 b2 x2 y2, e = .returned (.tuple #[.agg #[.bool b1, .string x1, .string y1], .agg #[.bool b2, .string x2, .string y2]]) ∧ x1.size ≤ 130 ∧ y1.size ≤ 130 ∧ x2.size ≤ 130 ∧ y2.size ≤ 130) ∧ Below w.heap.size w w' := by
  have e0 : ∀ (W : World) (o : Obj), (W.alloc o).heap.size = W.heap.size + 1 := fun W o => by simp
  have hB2 := ((Below.refl w.heap.size w).alloc (Nat.le_refl _) (.cells noR 24)).alloc (by simp) (.cells noR 24)
  have hC := cur_new (c := c) hn hA hB2
  have hR1 := ((Box.new w 24 noR).alloc (.cells noR 24)).alloc (.cells #[.slice A n c, .int .i64 0, .int .u64 0] 56)
  have hR2 := (Box.new (w.alloc (.cells noR 24)) 24 noR).alloc (.cells #[.slice A n c, .int .i64 0, .int .u64 0] 56)
  have hB := hB2.alloc hB2.size (.cells #[.slice A n c, .int .i64 0, .int .u64 0] 56)
  rw [e0, e0] at hC
  rw [e0] at hR2
  obtain ⟨W, hW⟩ : ∃ W, W = ((w.alloc (.cells noR 24)).alloc (.cells noR 24)).alloc (.cells #[.slice A n c, .int .i64 0, .int .u64 0] 56) := ⟨_, rfl⟩
  have hsz : W.heap.size = w.heap.size + 3 := by rw [hW, e0, e0, e0]
  rw [show w.heap.size + 1 + 1 = w.heap.size + 2 from rfl] at hC
  rw [← hW] at hC hR1 hR2 hB
  clear hB2 hA hn e0
  obtain ⟨g, hg⟩ : ∃ g, g = w.heap.size + 1 + 1 := ⟨_, rfl⟩
  rw [show w.heap.size + 2 = g from hg.symm] at hC
  have CA : Hid (∀ (m : Nat) W, Cur W g m → m ≤ 100000000 → _) := Lib.hid fun m W h1 h2 => anyRat_any g m W h1 h2
  have CO : Hid (∀ (m k : Nat) W, Cur W g m → m ≤ 1000000000000 → 1 ≤ k → k ≤ 200 → _) := Lib.hid fun m k W h1 h2 h3 h4 => cur_one g m k W h1 h2 h3 h4
  go_enter Tryz.func6, Tryz.ntmps6
  go_upto_region 2 with fail
  rw [← hW, ← hg]
  clear hW
  have Hg := Lib.hid hg
  clear hg
  have hgw : w.heap.size + 2 = g := Hg.out.symm
  go_upto_region 3 with (go_at_call 40; refine (CA.out 0 _ hC (by omega)).mono ?_; rintro e w1 ⟨⟨b1, x1, y1, rfl, k1, k2⟩, hc1, hb1⟩; replace hR1 := hR1.but hb1 (by omega); replace hR2 := hR2.but hb1 (by omega); have hX := Box.new w1 24 #[.bool b1, .string x1, .string y1]; have hal := (Below.refl w1.heap.size w1).alloc (Nat.le_refl _) (.cells #[.bool b1, .string x1, .string y1] 24); have hg1 := hb1.size; replace hc1 := hc1.step hal; replace hb1 := hb1.step hal; replace hR1 := hR1.below hal hR1.lt; replace hR2 := hR2.below hal hR2.lt)
  clear hal hC
  have HR1 := Lib.hid hR1
  have HR2 := Lib.hid hR2
  clear hR1 hR2
  obtain ⟨V, hV⟩ : ∃ V, V = w1.alloc (.cells #[.bool b1, .string x1, .string y1] 24) := ⟨_, rfl⟩
  have hVs : V.heap.size = w1.heap.size + 1 := by rw [hV]; simp
  rw [← hV] at hc1 hb1 HR1 HR2 hX ⊢
  clear hV
  go_upto_region 4 with (go_at_call 40; refine (CA.out (0 + 20) _ hc1 (by omega)).mono ?_; rintro e w2 ⟨⟨b2, x2, y2, rfl, k3, k4⟩, hc2, hb2⟩)
  have hw2 := hb2.size
  have hR1 := HR1.out.but hb2 (by omega)
  have hR2 := HR2.out.but hb2 (by omega)
  replace hX := hX.but hb2 (by omega)
  have hY := Box.new w2 24 #[.bool b2, .string x2, .string y2]
  have hal := (Below.refl w2.heap.size w2).alloc (Nat.le_refl _) (.cells #[.bool b2, .string x2, .string y2] 24)
  replace hc2 := hc2.step hal
  replace hb2 := (hb1.trans hb2).step hal
  replace hR1 := hR1.below hal hR1.lt
  replace hR2 := hR2.below hal hR2.lt
  replace hX := hX.below hal hX.lt
  clear hal hc1 hb1 HR1 HR2
  obtain ⟨V2, hV2⟩ : ∃ V2, V2 = w2.alloc (.cells #[.bool b2, .string x2, .string y2] 24) := ⟨_, rfl⟩
  have hVs2 : V2.heap.size = w2.heap.size + 1 := by rw [hV2]; simp
  rw [← hV2] at hc2 hb2 hR1 hR2 hX hY ⊢
  clear hV2
  go_upto_region 6 with (go_at_call 41; refine (CO.out (0 + 20 + 20) 6 _ hc2 (by omega) (by omega) (by omega)).mono ?_; rintro e w3 ⟨⟨rb, rfl⟩, hc3, hb3⟩; replace hR1 := hR1.but hb3 (by omega); replace hR2 := hR2.but hb3 (by omega); replace hX := hX.but hb3 (by omega); replace hY := hY.but hb3 (by omega); replace hb3 := hb2.trans hb3; obtain ⟨x0, x1', x2', _, _, _⟩ := hX.three; obtain ⟨y0, y1', y2', u0, u1, u2⟩ := hY.three; obtain ⟨r0, r1, r2, f0, f1, f2⟩ := hR1.three; obtain ⟨s0, s1, s2, v0, v1, v2⟩ := hR2.three)
  · have hX3 := hX.far3 (show w1.heap.size ≠ w2.heap.size by omega) (.bool !b1) (.string x1) (.string y1)
    have hR13 := hR1.far3 (show w.heap.size ≠ w2.heap.size by omega) (.bool !b1) (.string x1) (.string y1)
    have hR23 := hR2.far3 (show w.heap.size + 1 ≠ w2.heap.size by omega) (.bool !b1) (.string x1) (.string y1)
    have hY3 : Box (((w3.setCell ⟨w2.heap.size, 0, none⟩ (.bool !b1)).setCell ⟨w2.heap.size, 1, none⟩ (.string x1)).setCell ⟨w2.heap.size, 2, none⟩ (.string y1)) w2.heap.size 24 #[.bool !b1, .string x1, .string y1] := ((hY.set 0 _).set 1 _).set 2 _
    have hb4 := hb3.put3 (show W.heap.size ≤ w2.heap.size by omega) (.bool !b1) (.string x1) (.string y1)
    obtain ⟨V3, hV3⟩ : ∃ V3, V3 = ((w3.setCell ⟨w2.heap.size, 0, none⟩ (.bool !b1)).setCell ⟨w2.heap.size, 1, none⟩ (.string x1)).setCell ⟨w2.heap.size, 2, none⟩ (.string y1) := ⟨_, rfl⟩
    rw [← hV3] at hX3 hR13 hR23 hY3 hb4 ⊢
    clear hV3 x0 x1' x2' y0 y1' y2' u0 u1 u2 r0 r1 r2 f0 f1 f2 s0 s1 s2 v0 v1 v2 hb3 hX hY hR1 hR2
    obtain ⟨x0, x1', x2', _, _, _⟩ := hX3.three
    obtain ⟨y0, y1', y2', u0, u1, u2⟩ := hY3.three
    obtain ⟨r0, r1, r2, f0, f1, f2⟩ := hR13.three
    obtain ⟨s0, s1, s2, v0, v1, v2⟩ := hR23.three
    have hB4 := hB.trans (hb4.below (B := w.heap.size) (by omega) (by omega))
    clear CA CO
    go_region
    go_wp2_with fail
    have hF1 := (hR13.into3 (.bool b1) (.string x1) (.string y1)).far3 (show w.heap.size ≠ w.heap.size + 1 by omega) (.bool !b1) (.string x1) (.string y1)
    have hF2 := (hR23.far3 (show w.heap.size + 1 ≠ w.heap.size by omega) (.bool b1) (.string x1) (.string y1)).into3 (.bool !b1) (.string x1) (.string y1)
    have hB5 := below_put3 (below_put3 hB4 (Nat.le_refl _) (.bool b1) (.string x1) (.string y1)) (Nat.le_succ w.heap.size) (.bool !b1) (.string x1) (.string y1)
    obtain ⟨V4, hV4⟩ : ∃ V4, V4 = (((((V3.setCell ⟨w.heap.size, 0, none⟩ (.bool b1)).setCell ⟨w.heap.size, 1, none⟩ (.string x1)).setCell ⟨w.heap.size, 2, none⟩ (.string y1)).setCell ⟨w.heap.size + 1, 0, none⟩ (.bool !b1)).setCell ⟨w.heap.size + 1, 1, none⟩ (.string x1)).setCell ⟨w.heap.size + 1, 2, none⟩ (.string y1) := ⟨_, rfl⟩
    rw [← hV4] at hF1 hF2 hB5 ⊢
    obtain ⟨m0, m1, m2, _, _, _⟩ := hF1.three
    obtain ⟨n0, n1, n2, _, _, _⟩ := hF2.three
    refine bodyPost_ret (v := .tuple #[.agg #[.bool b1, .string x1, .string y1], .agg #[.bool !b1, .string x1, .string y1]]) (by simp [results, Tryz.results6, go_sem, m0, m1, m2, n0, n1, n2]; done) rfl ⟨⟨_, _, _, _, _, _, rfl, by omega, by omega, by omega, by omega⟩, below_drewN 1 hB5⟩
  · obtain ⟨V3, rfl⟩ : ∃ V3, V3 = w3 := ⟨_, rfl⟩
    have hR13 := hR1
    have hR23 := hR2
    have hB4 := hB.trans (hb3.below (B := w.heap.size) (by omega) (by omega))
    clear CA CO
    go_region
    go_wp2_with fail
    have hF1 := (hR13.into3 (.bool b1) (.string x1) (.string y1)).far3 (show w.heap.size ≠ w.heap.size + 1 by omega) (.bool b2) (.string x2) (.string y2)
    have hF2 := (hR23.far3 (show w.heap.size + 1 ≠ w.heap.size by omega) (.bool b1) (.string x1) (.string y1)).into3 (.bool b2) (.string x2) (.string y2)
    have hB5 := below_put3 (below_put3 hB4 (Nat.le_refl _) (.bool b1) (.string x1) (.string y1)) (Nat.le_succ w.heap.size) (.bool b2) (.string x2) (.string y2)
    obtain ⟨V4, hV4⟩ : ∃ V4, V4 = (((((V3.setCell ⟨w.heap.size, 0, none⟩ (.bool b1)).setCell ⟨w.heap.size, 1, none⟩ (.string x1)).setCell ⟨w.heap.size, 2, none⟩ (.string y1)).setCell ⟨w.heap.size + 1, 0, none⟩ (.bool b2)).setCell ⟨w.heap.size + 1, 1, none⟩ (.string x2)).setCell ⟨w.heap.size + 1, 2, none⟩ (.string y2) := ⟨_, rfl⟩
    rw [← hV4] at hF1 hF2 hB5 ⊢
    obtain ⟨m0, m1, m2, _, _, _⟩ := hF1.three
    obtain ⟨n0, n1, n2, _, _, _⟩ := hF2.three
    refine bodyPost_ret (v := .tuple #[.agg #[.bool b1, .string x1, .string y1], .agg #[.bool b2, .string x2, .string y2]]) (by simp [results, Tryz.results6, go_sem, m0, m1, m2, n0, n1, n2]; done) rfl ⟨⟨_, _, _, _, _, _, rfl, by omega, by omega, by omega, by omega⟩, below_drewN 1 hB5⟩

end Go.Proofs.YtmmonglcbkefmaaGreatDoor
