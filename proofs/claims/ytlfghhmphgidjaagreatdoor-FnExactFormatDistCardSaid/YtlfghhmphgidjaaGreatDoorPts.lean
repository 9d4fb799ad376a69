/-
  Points and distributions: the law's copies, comparisons and sizes of them.
-/
import Derived.Test.YtlfghhmphgidjaaGreatDoorDraws
namespace Go.Proofs.YtlfghhmphgidjaaGreatDoor
open Go.RowKit Num

/-- The four cells of a point. -/
def ptC (p : Int × Bool × ByteArray × ByteArray) : Nat → Value
  | 0 => .int .i64 p.1
  | 1 => .bool p.2.1
  | 2 => .string p.2.2.1
  | _ => .string p.2.2.2

/-- n points stand in a row from the address on. -/
def PtAt (w : World) (A : Option Addr) (n : Nat) (F : Nat → Int × Bool × ByteArray × ByteArray) : Prop :=
  0 < n → ∃ b off, A = some ⟨b, off, none⟩ ∧ b < w.heap.size ∧ ∀ j, j < n → ∀ c, c < 4 → w.cell? ⟨b, off + (j * 4 + c), none⟩ = some (ptC (F j) c)

theorem PtAt.below {B : Nat} {w w' : World} {A : Option Addr} {n : Nat} {F : Nat → Int × Bool × ByteArray × ByteArray} (h : PtAt w A n F) (hb : Below B w w') (hB : w.heap.size ≤ B) : PtAt w' A n F := fun h0 => by
  obtain ⟨b, off, rfl, h1, h2⟩ := h h0
  exact ⟨b, off, rfl, Nat.lt_of_lt_of_le h1 hb.size, fun j hj c hc => (hb.cell (p := ⟨b, off + (j * 4 + c), none⟩) (Nat.lt_of_lt_of_le h1 hB)).trans (h2 j hj c hc)⟩

theorem PtAt.at_ {w : World} {A : Option Addr} {n : Nat} {F : Nat → Int × Bool × ByteArray × ByteArray} (h : PtAt w A n F) {j : Nat} (hj : j < n) :
    ∃ b off, A = some ⟨b, off, none⟩ ∧ b < w.heap.size ∧ w.cell? ⟨b, off + j * 4, none⟩ = some (.int .i64 (F j).1) ∧ w.cell? ⟨b, off + j * 4 + 1, none⟩ = some (.bool (F j).2.1) ∧ w.cell? ⟨b, off + j * 4 + 2, none⟩ = some (.string (F j).2.2.1) ∧ w.cell? ⟨b, off + j * 4 + 3, none⟩ = some (.string (F j).2.2.2) := by
  obtain ⟨b, off, rfl, h1, h2⟩ := h (by omega)
  exact ⟨b, off, rfl, h1, h2 j hj 0 (by omega), h2 j hj 1 (by omega), h2 j hj 2 (by omega), h2 j hj 3 (by omega)⟩

theorem PtAt.cells {w : World} {b off n : Nat} {F : Nat → Int × Bool × ByteArray × ByteArray} (h : PtAt w (some ⟨b, off, none⟩) n F) {j : Nat} (hj : j < n) :
    w.cell? ⟨b, off + j * 4, none⟩ = some (.int .i64 (F j).1) ∧ w.cell? ⟨b, off + j * 4 + 1, none⟩ = some (.bool (F j).2.1) ∧ w.cell? ⟨b, off + j * 4 + 2, none⟩ = some (.string (F j).2.2.1) ∧ w.cell? ⟨b, off + j * 4 + 3, none⟩ = some (.string (F j).2.2.2) := by
  obtain ⟨b', off', he, _, h0, h1, h2, h3⟩ := h.at_ hj
  injection he with he
  injection he with e1 e2 _
  subst e1 e2
  exact ⟨h0, h1, h2, h3⟩

theorem Tryz.infoPt : (Tryz.prog.info? 93).map (fun i => (i.zero, i.size, i.bytes)) = some (some (.agg #[.int .i64 0, .bool false, .string ⟨#[]⟩, .string ⟨#[]⟩]), 4, 48) := by kernel_rfl

theorem mk_pt (n : Nat) (hn : n ≤ 1048576) (w : World) :
    (Instr.makeSlice 30 (.int .i64 (n : Int)) (.int .i64 (n : Int))).run Tryz.prog w = .ok (.slice (some ⟨w.heap.size, 0, none⟩) n n) (w.alloc (.cells (madeCells #[.int .i64 0, .bool false, .string ⟨#[]⟩, .string ⟨#[]⟩] (n * 4)) 93)) := by
  obtain ⟨i, hi, hzz⟩ := Option.map_eq_some_iff.1 Tryz.infoPt
  simp only [Prod.mk.injEq] at hzz
  obtain ⟨hz, hs, hb⟩ := hzz
  have hr := run_make (P := Tryz.prog) w 30 93 i _ Tryz.underlying30 hi hz .i64 .i64 n n (by omega) (Int.le_refl _) (by rw [hb]; omega) (by omega)
  simp only [Int.toNat_natCast, hs, Value.cells] at hr
  exact hr

theorem four_at {w : World} {g : Nat} {t : TypeId} {cs : Array Value} (h : Box w g t cs) (i : Nat) (hi : i + 4 ≤ cs.size) :
    w.cell? ⟨g, i, none⟩ = some (cs.getD i undef) ∧ w.cell? ⟨g, i + 1, none⟩ = some (cs.getD (i + 1) undef) ∧ w.cell? ⟨g, i + 2, none⟩ = some (cs.getD (i + 2) undef) ∧ w.cell? ⟨g, i + 3, none⟩ = some (cs.getD (i + 3) undef) ∧
    w.frozen? ⟨g, i, none⟩ = false ∧ w.frozen? ⟨g, i + 1, none⟩ = false ∧ w.frozen? ⟨g, i + 2, none⟩ = false ∧ w.frozen? ⟨g, i + 3, none⟩ = false := by
  refine ⟨?_, ?_, ?_, ?_, h.free _, h.free _, h.free _, h.free _⟩
  all_goals rw [h.cell, Array.getD, dif_pos (by omega), Array.getElem?_eq_getElem (by omega)]; rfl

theorem fill4p (k n : Nat) (cs : Array Value) (F : Nat → Nat → Value) (hcs : cs.size = n * 4) (hk : k < n) (h : ∀ j, j < k → ∀ c, c < 4 → cs[j * 4 + c]? = some (F j c)) :
    ∀ j, j < k + 1 → ∀ c, c < 4 → ((((cs.setIfInBounds (k * 4) (F k 0)).setIfInBounds (k * 4 + 1) (F k 1)).setIfInBounds (k * 4 + 2) (F k 2)).setIfInBounds (k * 4 + 3) (F k 3))[j * 4 + c]? = some (F j c) := by
  intro j hj c hc
  simp only [Array.getElem?_setIfInBounds, Array.size_setIfInBounds]
  by_cases hjk : j < k
  · rw [if_neg (by omega), if_neg (by omega), if_neg (by omega), if_neg (by omega)]
    exact h j hjk c hc
  · obtain rfl : j = k := by omega
    match c, hc with
    | 0, _ => rw [if_neg (by omega), if_neg (by omega), if_neg (by omega), if_pos (by omega), if_pos (by omega)]
    | 1, _ => rw [if_neg (by omega), if_neg (by omega), if_pos (by omega), if_pos (by omega)]
    | 2, _ => rw [if_neg (by omega), if_pos (by omega), if_pos (by omega)]
    | 3, _ => rw [if_pos (by omega), if_pos (by omega)]

/-- The four cells of a block, as the walk asks for them. -/
theorem Box.four {w : World} {g : Nat} {t : TypeId} {a b c d : Value} (h : Box w g t #[a, b, c, d]) : w.cell? ⟨g, 0, none⟩ = some a ∧ w.cell? ⟨g, 1, none⟩ = some b ∧ w.cell? ⟨g, 2, none⟩ = some c ∧ w.cell? ⟨g, 3, none⟩ = some d ∧
    w.frozen? ⟨g, 0, none⟩ = false ∧ w.frozen? ⟨g, 1, none⟩ = false ∧ w.frozen? ⟨g, 2, none⟩ = false ∧ w.frozen? ⟨g, 3, none⟩ = false :=
  ⟨h.cell 0, h.cell 1, h.cell 2, h.cell 3, h.free 0, h.free 1, h.free 2, h.free 3⟩

theorem Box.far {w : World} {G H : Nat} {t : TypeId} {cs : Array Value} (h : Box w G t cs) (hne : H ≠ G) (i : Nat) (v : Value) : Box (w.setCell ⟨H, i, none⟩ v) G t cs := by
  unfold Box at h ⊢
  simp [World.setCell, Array.getElem?_modify, hne, h]

theorem below_put4 {B g : Nat} {w0 w : World} (hb : Below B w0 w) (hg : B ≤ g) (x y z u : Value) : Below B w0 ((((w.setCell ⟨g, 0, none⟩ x).setCell ⟨g, 1, none⟩ y).setCell ⟨g, 2, none⟩ z).setCell ⟨g, 3, none⟩ u) :=
  (((hb.setCell (p := ⟨g, 0, none⟩) hg x).setCell (p := ⟨g, 1, none⟩) hg y).setCell (p := ⟨g, 2, none⟩) hg z).setCell (p := ⟨g, 3, none⟩) hg u

set_option maxRecDepth 100000 in
set_option maxHeartbeats 1600000 in
theorem toPt_any (v : Int) (b : Bool) (x y : ByteArray) (w : World) :
    Calls Tryz.prog 119 #[.agg #[.int .i64 v, .bool b, .string x, .string y]] w fun e w' => e = .returned (.agg #[.int .i64 v, .bool b, .string x, .string y]) ∧ Below w.heap.size w w' := by
  have e0 : ∀ (W : World) (o : Obj), (W.alloc o).heap.size = W.heap.size + 1 := fun W o => by simp
  have hP := ((Box.new w 152 #[.int .i64 v, .bool b, .string x, .string y]).alloc (.cells #[.int .i64 0, .bool false, .string ⟨#[]⟩, .string ⟨#[]⟩] 93)).alloc (.cells #[.int .i64 v, .bool false, .string ⟨#[]⟩, .string ⟨#[]⟩] 93)
  have hP' := ((Box.new w 152 #[.int .i64 v, .bool b, .string x, .string y]).alloc (.cells #[.int .i64 0, .bool false, .string ⟨#[]⟩, .string ⟨#[]⟩] 93)).alloc (.cells #[.int .i64 0, .bool false, .string ⟨#[]⟩, .string ⟨#[]⟩] 93)
  have hR := (Box.new (w.alloc (.cells #[.int .i64 v, .bool b, .string x, .string y] 152)) 93 #[.int .i64 0, .bool false, .string ⟨#[]⟩, .string ⟨#[]⟩]).alloc (.cells #[.int .i64 v, .bool false, .string ⟨#[]⟩, .string ⟨#[]⟩] 93)
  have hO := Box.new ((w.alloc (.cells #[.int .i64 v, .bool b, .string x, .string y] 152)).alloc (.cells #[.int .i64 0, .bool false, .string ⟨#[]⟩, .string ⟨#[]⟩] 93)) 93 #[.int .i64 v, .bool false, .string ⟨#[]⟩, .string ⟨#[]⟩]
  rw [e0] at hR
  rw [e0, e0] at hO
  have hB := (((Below.refl w.heap.size w).alloc (Nat.le_refl _) (.cells #[.int .i64 v, .bool b, .string x, .string y] 152)).alloc (by simp) (.cells #[.int .i64 0, .bool false, .string ⟨#[]⟩, .string ⟨#[]⟩] 93)).alloc (by simp; omega) (.cells #[.int .i64 v, .bool false, .string ⟨#[]⟩, .string ⟨#[]⟩] 93)
  clear e0
  have C : Hid (∀ W, _) := Lib.hid fun W => toRat_any b x y W
  obtain ⟨q0, q1, q2, q3, _, _, _, _⟩ := hP.four
  obtain ⟨q0', _, _, _, _, _, _, _⟩ := hP'.four
  go_enter Tryz.func119, Tryz.ntmps119
  go_upto_region 4 with (go_at_call 35; refine (C.out _).mono ?_; rintro e w1 ⟨rfl, hb1⟩; have hO1 := hO.below hb1 hO.lt; have hR1 := hR.below hb1 hR.lt; have hB1 := hB.trans (hb1.mono hB.size); obtain ⟨z0, z1, z2, z3, f0, f1, f2, f3⟩ := hO1.four)
  have hO2 : Box _ (w.heap.size + 1 + 1) 93 #[.int .i64 v, .bool b, .string x, .string y] := ((hO1.set 1 (.bool b)).set 2 (.string x)).set 3 (.string y)
  have hR2 := ((hR1.far (show w.heap.size + 1 + 1 ≠ w.heap.size + 1 by omega) 1 (.bool b)).far (show w.heap.size + 1 + 1 ≠ w.heap.size + 1 by omega) 2 (.string x)).far (show w.heap.size + 1 + 1 ≠ w.heap.size + 1 by omega) 3 (.string y)
  have hB2 := ((hB1.setCell (p := ⟨w.heap.size + 1 + 1, 1, none⟩) (by show w.heap.size ≤ w.heap.size + 1 + 1; omega) (.bool b)).setCell (p := ⟨w.heap.size + 1 + 1, 2, none⟩) (by show w.heap.size ≤ w.heap.size + 1 + 1; omega) (.string x)).setCell (p := ⟨w.heap.size + 1 + 1, 3, none⟩) (by show w.heap.size ≤ w.heap.size + 1 + 1; omega) (.string y)
  generalize hW : World.setCell _ _ _ = W2 at hO2 hR2 hB2 ⊢
  clear hW
  obtain ⟨m0, m1, m2, m3, _, _, _, _⟩ := hO2.four
  obtain ⟨n0, n1, n2, n3, k0, k1, k2, k3⟩ := hR2.four
  go_wp2_with fail
  have hR3 : Box _ (w.heap.size + 1) 93 #[.int .i64 v, .bool b, .string x, .string y] := (((hR2.set 0 (.int .i64 v)).set 1 (.bool b)).set 2 (.string x)).set 3 (.string y)
  obtain ⟨l0, l1, l2, l3, _, _, _, _⟩ := hR3.four
  refine bodyPost_ret (v := .agg #[.int .i64 v, .bool b, .string x, .string y]) (by simp [results, Tryz.results119, go_sem, l0, l1, l2, l3]; done) rfl ⟨rfl, ?_⟩
  exact below_put4 hB2 (by omega) _ _ _ _

set_option maxRecDepth 100000 in
set_option maxHeartbeats 1600000 in
theorem toPtS_any (A0 : Option Addr) (n cap : Nat) (F : Nat → Int × Bool × ByteArray × ByteArray) (w : World) (hn : n ≤ 1048576) (hA : PtAt w A0 n F) :
    Calls Tryz.prog 64 #[.slice A0 n cap] w fun e w' => (∃ g, e = .returned (.slice (some ⟨g, 0, none⟩) n n) ∧ PtAt w' (some ⟨g, 0, none⟩) n F ∧ w.heap.size ≤ g) ∧ Below w.heap.size w w' := by
  have hmk := mk_pt n hn
  have HA := Lib.hid hA; clear hA
  go_enter Tryz.func64, Tryz.ntmps64
  go_wp2_with fail
  clear hmk
  obtain ⟨G, hG⟩ : ∃ G, G = w.heap.size := ⟨_, rfl⟩
  rw [← hG]
  have HG := Lib.hid hG; clear hG
  go_loopw [4] (fun i wr => ∃ (k : Nat) (cs : Array Value), (k ≤ n ∧ cs.size = n * 4 ∧ ∀ j, j < k → ∀ c, c < 4 → cs[j * 4 + c]? = some (ptC (F j) c)) ∧ Box wr G 93 cs ∧ Below w.heap.size w wr ∧ i = .int .i64 (k : Int)) (fun i _ => ((n : Int) - intOf i).toNat)
  case atStart =>
    refine ⟨0, madeCells #[.int .i64 0, .bool false, .string ⟨#[]⟩, .string ⟨#[]⟩] (n * 4), ⟨by omega, size_madeCells _ _, fun j h => by omega⟩, ?_, ?_, rfl⟩
    · rw [HG.out]; exact Box.new w _ _
    · exact (Below.refl _ w).alloc (Nat.le_refl _) _
  case round =>
    obtain ⟨k, cs, hk', hbx, hB, rfl⟩ := hrel
    obtain ⟨hk, hcs, hfill⟩ := hk'
    have Hfill := Lib.hid hfill; clear hfill
    have HB := Lib.hid hB; clear hB
    by_cases hk0 : k < n
    · have hAw : PtAt wr A0 n F := HA.out.below HB.out (Nat.le_refl _)
      obtain ⟨b, off, rfl, hb, r0, r1, r2, r3⟩ := hAw.at_ hk0
      have Hb := Lib.hid hb; clear hb hAw
      go_wp2_with (go_at_call 119; refine (toPt_any _ _ _ _ _).mono ?_; rintro e w1 ⟨rfl, hb1⟩; replace hbx := hbx.below hb1 hbx.lt; replace HB := Lib.hid (HB.out.trans (hb1.mono HB.out.size)); obtain ⟨k0, k1, k2, k3, f0, f1, f2, f3⟩ := four_at hbx (k * 4) (by omega))
      refine ⟨⟨k + 1, _, ⟨by omega, ?_, ?_⟩, (((hbx.set _ _).set _ _).set _ _).set _ _, ?_, by simp⟩, by simp [intOf]; omega⟩
      · simp [hcs]
      · exact fill4p k n cs (fun j => ptC (F j)) hcs hk0 Hfill.out
      · have hG2 : w.heap.size ≤ G := by rw [HG.out]; exact Nat.le_refl _
        exact (((HB.out.setCell (p := ⟨G, k * 4, none⟩) hG2 _).setCell (p := ⟨G, k * 4 + 1, none⟩) hG2 _).setCell (p := ⟨G, k * 4 + 2, none⟩) hG2 _).setCell (p := ⟨G, k * 4 + 3, none⟩) hG2 _
    · obtain rfl : k = n := by omega
      go_wp2_with fail
      go_ret
      refine ⟨⟨G, rfl, fun _ => ⟨G, 0, rfl, hbx.lt, fun j hj c hc => ?_⟩, Nat.le_of_eq HG.out.symm⟩, ?_⟩
      · rw [hbx.cell]; rw [Nat.zero_add]; exact Hfill.out j hj c hc
      · exact HB.out

theorem PtAt.other {w : World} {g n : Nat} {F : Nat → Int × Bool × ByteArray × ByteArray} (h : PtAt w (some ⟨g, 0, none⟩) n F) {p : Addr} (hp : g ≠ p.block) (u : Value) : PtAt (w.setCell p u) (some ⟨g, 0, none⟩) n F := fun h0 => by
  obtain ⟨b, off, he, h1, h2⟩ := h h0
  injection he with he
  injection he with e1 e2 _
  subst e1 e2
  refine ⟨g, 0, rfl, Nat.lt_of_lt_of_le h1 ((Below.refl 0 w).setCell (p := p) (Nat.zero_le _) u).size, fun j hj c hc => ?_⟩
  rw [World.cell?_of_block (w := w) (Below.heap_setCell w p u g hp)]
  exact h2 j hj c hc

set_option maxRecDepth 100000 in
set_option maxHeartbeats 1600000 in
theorem toDist_any (A0 : Option Addr) (n cap : Nat) (F : Nat → Int × Bool × ByteArray × ByteArray) (w : World) (hn : n ≤ 1048576) (hA : PtAt w A0 n F) :
    Calls Tryz.prog 18 #[.agg #[.slice A0 n cap]] w fun e w' => (∃ g, e = .returned (.agg #[.slice (some ⟨g, 0, none⟩) n n]) ∧ PtAt w' (some ⟨g, 0, none⟩) n F) ∧ Below w.heap.size w w' := by
  have e0 : ∀ (W : World) (o : Obj), (W.alloc o).heap.size = W.heap.size + 1 := fun W o => by simp
  have hP := ((Box.new w 24 #[.slice A0 n cap]).alloc (.cells #[.slice none 0 0] 32)).alloc (.cells #[.slice none 0 0] 32)
  have hR := (Box.new (w.alloc (.cells #[.slice A0 n cap] 24)) 32 #[.slice none 0 0]).alloc (.cells #[.slice none 0 0] 32)
  have hO := Box.new ((w.alloc (.cells #[.slice A0 n cap] 24)).alloc (.cells #[.slice none 0 0] 32)) 32 #[.slice none 0 0]
  rw [e0] at hR
  rw [e0, e0] at hO
  have hB := (((Below.refl w.heap.size w).alloc (Nat.le_refl _) (.cells #[.slice A0 n cap] 24)).alloc (by simp) (.cells #[.slice none 0 0] 32)).alloc (by simp; omega) (.cells #[.slice none 0 0] 32)
  have hA1 : PtAt _ A0 n F := hA.below hB (Nat.le_refl _)
  have C : Hid (∀ W, PtAt W A0 n F → _) := Lib.hid fun W h => toPtS_any A0 n cap F W hn h
  have HA := Lib.hid hA1
  have q0 := hP.cell 0
  clear hA hA1
  go_enter Tryz.func18, Tryz.ntmps18
  go_upto_region 3 with (go_at_call 64; refine (C.out _ HA.out).mono ?_; rintro e w1 ⟨⟨g1, rfl, hg1, hg2⟩, hb1⟩; have hO1 := hO.below hb1 hO.lt; have hR1 := hR.below hb1 hR.lt; have hB1 := hB.trans (hb1.mono hB.size); have z0 := hO1.cell 0; have f0 := hO1.free 0)
  rw [e0, e0, e0] at hg2
  have hO2 : Box _ (w.heap.size + 1 + 1) 32 #[.slice (some ⟨g1, 0, none⟩) n n] := hO1.set 0 (.slice (some ⟨g1, 0, none⟩) n n)
  have hR2 := hR1.far (show w.heap.size + 1 + 1 ≠ w.heap.size + 1 by omega) 0 (.slice (some ⟨g1, 0, none⟩) n n)
  have hB2 := hB1.setCell (p := ⟨w.heap.size + 1 + 1, 0, none⟩) (by show w.heap.size ≤ w.heap.size + 1 + 1; omega) (.slice (some ⟨g1, 0, none⟩) n n)
  have hg3 := hg1.other (p := ⟨w.heap.size + 1 + 1, 0, none⟩) (by show g1 ≠ w.heap.size + 1 + 1; omega) (.slice (some ⟨g1, 0, none⟩) n n)
  generalize hW : World.setCell _ _ _ = W2 at hO2 hR2 hB2 hg3 ⊢
  clear hW
  have m0 := hO2.cell 0
  have n0 := hR2.cell 0
  have k0 := hR2.free 0
  go_wp2_with fail
  have hR3 : Box _ (w.heap.size + 1) 32 #[.slice (some ⟨g1, 0, none⟩) n n] := hR2.set 0 (.slice (some ⟨g1, 0, none⟩) n n)
  have l0 := hR3.cell 0
  refine bodyPost_ret (v := .agg #[.slice (some ⟨g1, 0, none⟩) n n]) (by simp [results, Tryz.results18, go_sem, l0]; done) rfl ⟨⟨g1, rfl, ?_⟩, ?_⟩
  · exact hg3.other (by show g1 ≠ w.heap.size + 1; omega) _
  · exact hB2.setCell (p := ⟨w.heap.size + 1, 0, none⟩) (by show w.heap.size ≤ w.heap.size + 1; omega) _

set_option maxRecDepth 100000 in
set_option maxHeartbeats 1000000 in
theorem eqPt_same (v : Int) (b : Bool) (x y : ByteArray) (w : World) :
    Calls Tryz.prog 123 #[.agg #[.int .i64 v, .bool b, .string x, .string y], .agg #[.int .i64 v, .bool b, .string x, .string y]] w fun e w' => e = .returned (.bool true) ∧ Below w.heap.size w w' := by
  have hP := (Box.new w 93 #[.int .i64 v, .bool b, .string x, .string y]).alloc (.cells #[.int .i64 v, .bool b, .string x, .string y] 93)
  have hO := Box.new (w.alloc (.cells #[.int .i64 v, .bool b, .string x, .string y] 93)) 93 #[.int .i64 v, .bool b, .string x, .string y]
  rw [show (w.alloc (.cells #[.int .i64 v, .bool b, .string x, .string y] 93)).heap.size = w.heap.size + 1 by simp] at hO
  have hB := ((Below.refl w.heap.size w).alloc (Nat.le_refl _) (.cells #[.int .i64 v, .bool b, .string x, .string y] 93)).alloc (by simp) (.cells #[.int .i64 v, .bool b, .string x, .string y] 93)
  obtain ⟨q0, q1, q2, q3, _, _, _, _⟩ := hP.four
  obtain ⟨p0, p1, p2, p3, _, _, _, _⟩ := hO.four
  have C : Hid (∀ W, _) := Lib.hid fun W => eqRat_same b x y W
  go_enter Tryz.func123, Tryz.ntmps123
  go_wp2_with (go_at_call 20; refine (C.out _).mono ?_; rintro e w1 ⟨rfl, hb1⟩; have hB1 := hB.trans (hb1.mono hB.size))
  go_ret
  exact ⟨rfl, hB1⟩

theorem hold8P {W w' : World} {b off b' off' n j : Nat} {F : Nat → Int × Bool × ByteArray × ByteArray} (h : PtAt W (some ⟨b, off, none⟩) n F) (k : PtAt W (some ⟨b', off', none⟩) n F) (hj : j < n) (hb : Below W.heap.size W w') :
    w'.cell? ⟨b, off + j * 4, none⟩ = some (.int .i64 (F j).1) ∧ w'.cell? ⟨b, off + j * 4 + 1, none⟩ = some (.bool (F j).2.1) ∧ w'.cell? ⟨b, off + j * 4 + 2, none⟩ = some (.string (F j).2.2.1) ∧ w'.cell? ⟨b, off + j * 4 + 3, none⟩ = some (.string (F j).2.2.2) ∧
    w'.cell? ⟨b', off' + j * 4, none⟩ = some (.int .i64 (F j).1) ∧ w'.cell? ⟨b', off' + j * 4 + 1, none⟩ = some (.bool (F j).2.1) ∧ w'.cell? ⟨b', off' + j * 4 + 2, none⟩ = some (.string (F j).2.2.1) ∧ w'.cell? ⟨b', off' + j * 4 + 3, none⟩ = some (.string (F j).2.2.2) ∧ Below W.heap.size W w' := by
  obtain ⟨h0, h1, h2, h3⟩ := (h.below hb (Nat.le_refl _)).cells hj
  obtain ⟨k0, k1, k2, k3⟩ := (k.below hb (Nat.le_refl _)).cells hj
  exact ⟨h0, h1, h2, h3, k0, k1, k2, k3, hb⟩
theorem hold8P_below {W w' : World} {p1 p2 p3 p4 p5 p6 p7 p8 : Prop} (h : p1 ∧ p2 ∧ p3 ∧ p4 ∧ p5 ∧ p6 ∧ p7 ∧ p8 ∧ Below W.heap.size W w') : Below W.heap.size W w' := h.2.2.2.2.2.2.2.2

set_option maxRecDepth 100000 in
set_option maxHeartbeats 1600000 in
theorem eqPtS_any (A0 A1 : Option Addr) (n c0 c1 : Nat) (F : Nat → Int × Bool × ByteArray × ByteArray) (w : World) (hn : n ≤ 1048576) (h0 : PtAt w A0 n F) (h1 : PtAt w A1 n F) :
    Calls Tryz.prog 67 #[.slice A0 n c0, .slice A1 n c1] w fun e w' => e = .returned (.bool true) ∧ Below w.heap.size w w' := by
  have H0 := Lib.hid h0; clear h0
  have H1 := Lib.hid h1; clear h1
  go_enter Tryz.func67, Tryz.ntmps67
  go_wp2_with fail
  go_loopg [5] n (fun q iv wr => ∃ k : Nat, k + q = n ∧ iv = .int .i64 (k : Nat) ∧ Below w.heap.size w wr)
  case atStart => exact ⟨0, by omega, rfl, Below.refl _ _⟩
  case round =>
    obtain ⟨k, hk, rfl, hbel⟩ := hrel
    by_cases hk0 : k < n
    · have ha0 := H0.out.below hbel (Nat.le_refl _)
      have ha1 := H1.out.below hbel (Nat.le_refl _)
      obtain ⟨b, off, rfl, _, _⟩ := ha0 (by omega)
      obtain ⟨b', off', rfl, _, _⟩ := ha1 (by omega)
      have C : Hid (∀ W, _) := Lib.hid fun W => eqPt_same (F k).1 (F k).2.1 (F k).2.2.1 (F k).2.2.2 W
      have HA0 := Lib.hid ha0
      have HA1 := Lib.hid ha1
      clear ha0 ha1
      go_upto_region 6 with fail
      go_region_held3 (fun w' => w'.cell? ⟨b, off + k * 4, none⟩ = some (.int .i64 (F k).1) ∧ w'.cell? ⟨b, off + k * 4 + 1, none⟩ = some (.bool (F k).2.1) ∧ w'.cell? ⟨b, off + k * 4 + 2, none⟩ = some (.string (F k).2.2.1) ∧ w'.cell? ⟨b, off + k * 4 + 3, none⟩ = some (.string (F k).2.2.2) ∧ w'.cell? ⟨b', off' + k * 4, none⟩ = some (.int .i64 (F k).1) ∧ w'.cell? ⟨b', off' + k * 4 + 1, none⟩ = some (.bool (F k).2.1) ∧ w'.cell? ⟨b', off' + k * 4 + 2, none⟩ = some (.string (F k).2.2.1) ∧ w'.cell? ⟨b', off' + k * 4 + 3, none⟩ = some (.string (F k).2.2.2) ∧ Below wr.heap.size wr w')
        ((refine hold8P HA0.out HA1.out hk0 ?_; first | exact (Below.refl _ wr).drew | exact hold8P_below (by assumption) | (refine step6R (hold8P_below (by assumption)) ?_; assumption)))
        ((go_at_call 123; refine (C.out _).mono ?_; rintro e w1 ⟨rfl, hb1⟩))
      all_goals go_wp2_with fail
      go_roundg (gk - 1)
      case rel => exact ⟨k + 1, by omega, by go_num, hbel.trans ((hold8P_below (by assumption)).mono hbel.size)⟩
      case measure => omega
    · obtain rfl : k = n := by omega
      go_wp2_with fail
      go_ret
      exact ⟨rfl, hbel⟩

set_option maxRecDepth 100000 in
set_option maxHeartbeats 1600000 in
theorem eqDist_any (A0 A1 : Option Addr) (n c0 c1 : Nat) (F : Nat → Int × Bool × ByteArray × ByteArray) (w : World) (hn : n ≤ 1048576) (h0 : PtAt w A0 n F) (h1 : PtAt w A1 n F) :
    Calls Tryz.prog 21 #[.agg #[.slice A0 n c0], .agg #[.slice A1 n c1]] w fun e w' => e = .returned (.bool true) ∧ Below w.heap.size w w' := by
  have hB := ((Below.refl w.heap.size w).alloc (Nat.le_refl _) (.cells #[.slice A0 n c0] 32)).alloc (by simp) (.cells #[.slice A1 n c1] 32)
  have C : Hid (∀ W, Below w.heap.size w W → _) := Lib.hid fun W hW => eqPtS_any A0 A1 n c0 c1 F W hn (h0.below hW (Nat.le_refl _)) (h1.below hW (Nat.le_refl _))
  have q0 := ((Box.new w 32 #[.slice A0 n c0]).alloc (.cells #[.slice A1 n c1] 32)).cell 0
  have hO := Box.new (w.alloc (.cells #[.slice A0 n c0] 32)) 32 #[.slice A1 n c1]
  rw [show (w.alloc (.cells #[.slice A0 n c0] 32)).heap.size = w.heap.size + 1 by simp] at hO
  have p0 := hO.cell 0
  clear hO h0 h1
  go_enter Tryz.func21, Tryz.ntmps21
  go_wp2_with (go_at_call 67; first | (refine (C.out _ hB).mono ?_; rintro e w1 ⟨rfl, hb1⟩; have hB1 := hB.trans (hb1.mono hB.size)) | (refine (C.out _ hB.drew).mono ?_; rintro e w1 ⟨rfl, hb1⟩; have hB1 := hB.drew.trans (hb1.mono hB.size)))
  all_goals go_ret
  all_goals exact ⟨rfl, hB1⟩

set_option maxRecDepth 100000 in
set_option maxHeartbeats 1600000 in
theorem szPt_any (v : Int) (b : Bool) (x y : ByteArray) (n : Int) (w : World) (hn : n ≤ 1048576) (hn0 : -1 ≤ n) (hx : x.size ≤ 9223372036854775807) (hy : y.size ≤ 9223372036854775807) :
    Calls Tryz.prog 115 #[.agg #[.int .i64 v, .bool b, .string x, .string y], .int .i64 n] w fun e w' => (∃ m : Int, e = .returned (.int .i64 m) ∧ -1 ≤ m ∧ m ≤ 1048576) ∧ Below w.heap.size w w' := by
  have hP := Box.new w 152 #[.int .i64 v, .bool b, .string x, .string y]
  have hB := (Below.refl w.heap.size w).alloc (Nat.le_refl _) (.cells #[.int .i64 v, .bool b, .string x, .string y] 152)
  obtain ⟨q0, q1, q2, q3, _, _, _, _⟩ := hP.four
  have C : Hid (∀ W, _) := Lib.hid fun W => szRat_any b x y n W hn hn0 hx hy
  clear hn hn0 hx hy
  go_enter Tryz.func115, Tryz.ntmps115
  go_wp2_with (go_at_call 33; refine (C.out _).mono ?_; rintro e w1 ⟨⟨m, rfl, hm1, hm2, hm3⟩, hb1⟩; clear hm3; have hB1 := hB.trans (hb1.mono hB.size))
  all_goals go_ret
  · exact ⟨⟨-1, rfl, by omega, by omega⟩, hB1⟩
  · exact ⟨⟨m, rfl, by omega, by omega⟩, hB1⟩

set_option maxRecDepth 100000 in
set_option maxHeartbeats 1600000 in
theorem szPtS_any (A0 : Option Addr) (n cap : Nat) (F : Nat → Int × Bool × ByteArray × ByteArray) (w : World) (hn : n ≤ 9223372036854775807) (hA : PtAt w A0 n F) (hs : ∀ j, j < n → (F j).2.2.1.size ≤ 9223372036854775807 ∧ (F j).2.2.2.size ≤ 9223372036854775807) :
    Calls Tryz.prog 60 #[.slice A0 n cap, .int .i64 1048576] w fun e w' => (∃ m : Int, e = .returned (.int .i64 m) ∧ -1 ≤ m ∧ m ≤ 1048576 ∧ (0 ≤ m → n ≤ 1048576)) ∧ Below w.heap.size w w' := by
  have hw : IntKind.i64.wrap (1048576 - (n : Int)) = 1048576 - (n : Int) := IntWalk.i64_in _ (by omega)
  have HA := Lib.hid hA; clear hA
  have HS := Lib.hid hs; clear hs
  by_cases h : n ≤ 1048576
  · have h1 : decide (1048576 - (n : Int) < 0) = false := decide_eq_false (by omega)
    go_enter Tryz.func60, Tryz.ntmps60
    go_wp2_with fail
    go_loopg [1, 5] n (fun q lv iv wr => ∃ (k : Nat) (m : Int), k + q = n ∧ iv = .int .i64 (k : Nat) ∧ lv = .int .i64 m ∧ 0 ≤ m ∧ m ≤ 1048576 ∧ Below w.heap.size w wr)
    case atStart => exact ⟨0, _, by omega, rfl, rfl, by omega, by omega, Below.refl _ _⟩
    case round =>
      obtain ⟨k, m, hk, rfl, rfl, hm0, hm1, hbel⟩ := hrel
      by_cases hk0 : k < n
      · have hAw : PtAt wr A0 n F := HA.out.below hbel (Nat.le_refl _)
        obtain ⟨b, off, rfl, hb, r0, r1, r2, r3⟩ := hAw.at_ hk0
        obtain ⟨s1, s2⟩ := HS.out k hk0
        have C : Hid (∀ W, _) := Lib.hid fun W => szPt_any (F k).1 (F k).2.1 (F k).2.2.1 (F k).2.2.2 m W hm1 (by omega) s1 s2
        clear hb hAw s1 s2
        go_upto_region 8 with (go_at_call 115; refine (C.out _).mono ?_; rintro e w1 ⟨⟨m', rfl, hm0', hm1'⟩, hb1⟩)
        by_cases hneg : m' < 0
        · have hn1 : decide (m' < 0) = true := decide_eq_true hneg
          go_wp2_with fail
          go_ret
          exact ⟨⟨_, rfl, by omega, by omega, fun _ => h⟩, hbel.trans (hb1.mono hbel.size)⟩
        · have hn1 : decide (m' < 0) = false := decide_eq_false hneg
          go_wp2_with fail
          go_roundg (gk - 1)
          case rel => exact ⟨k + 1, m', by omega, by go_num, rfl, by omega, by omega, hbel.trans (hb1.mono hbel.size)⟩
          case measure => omega
      · obtain rfl : k = n := by omega
        go_wp2_with fail
        go_ret
        exact ⟨⟨_, rfl, by omega, by omega, fun _ => h⟩, hbel⟩
  · have h1 : decide (1048576 - (n : Int) < 0) = true := decide_eq_true (by omega)
    go_enter Tryz.func60, Tryz.ntmps60
    go_wp2_with fail
    go_ret
    exact ⟨⟨_, rfl, by omega, by omega, fun h' => absurd h' (by omega)⟩, Below.refl _ _⟩

set_option maxRecDepth 100000 in
set_option maxHeartbeats 1600000 in
theorem szDist_any (A0 : Option Addr) (n cap : Nat) (F : Nat → Int × Bool × ByteArray × ByteArray) (w : World) (hn : n ≤ 9223372036854775807) (hA : PtAt w A0 n F) (hs : ∀ j, j < n → (F j).2.2.1.size ≤ 9223372036854775807 ∧ (F j).2.2.2.size ≤ 9223372036854775807) :
    Calls Tryz.prog 16 #[.agg #[.slice A0 n cap], .int .i64 1048576] w fun e w' => (∃ m : Int, e = .returned (.int .i64 m) ∧ -1 ≤ m ∧ m ≤ 1048576 ∧ (0 ≤ m → n ≤ 1048576)) ∧ Below w.heap.size w w' := by
  have hB := (Below.refl w.heap.size w).alloc (Nat.le_refl _) (.cells #[.slice A0 n cap] 24)
  have q0 := (Box.new w 24 #[.slice A0 n cap]).cell 0
  have C : Hid (∀ W, Below w.heap.size w W → _) := Lib.hid fun W hW => szPtS_any A0 n cap F W hn (hA.below hW (Nat.le_refl _)) hs
  clear hA hs
  go_enter Tryz.func16, Tryz.ntmps16
  go_wp2_with (go_at_call 60; refine (C.out _ hB).mono ?_; rintro e w1 ⟨⟨m, rfl, hm1, hm2, hm3⟩, hb1⟩; have HM := Lib.hid hm3; clear hm3; have hB1 := hB.trans (hb1.mono hB.size))
  all_goals go_ret
  · exact ⟨⟨-1, rfl, by omega, by omega, fun h => absurd h (by decide)⟩, hB1⟩
  · exact ⟨⟨m, rfl, by omega, by omega, HM.out⟩, hB1⟩

end Go.Proofs.YtlfghhmphgidjaaGreatDoor
