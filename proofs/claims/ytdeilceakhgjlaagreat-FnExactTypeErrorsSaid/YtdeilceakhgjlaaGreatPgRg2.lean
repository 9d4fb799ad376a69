/-
  Intervals of expressions: the program's loop. (Written by gen_pgrg2.py.)
-/
import Derived.Test.YtdeilceakhgjlaaGreatPgRgA
import Derived.Laws.MakeOwn
namespace Go.Proofs.YtdeilceakhgjlaaGreat
open Go.RowKit Num

/-- The cells are n pairs, of which the first k are set. -/
def PairsC (cs : Array Value) (n k : Nat) (g : Nat → Int × Int) : Prop := cs.size = n * 2 ∧ ∀ j, j < k → cs[j * 2]? = some (.int .i64 (g j).1) ∧ cs[j * 2 + 1]? = some (.int .i64 (g j).2)
theorem PairsC.made (n : Nat) (g : Nat → Int × Int) : PairsC (madeCells #[.int .i64 0, .int .i64 0] (n * 2)) n 0 g := ⟨size_madeCells _ _, fun _ h => absurd h (Nat.not_lt_zero _)⟩
theorem PairsC.put {cs : Array Value} {n k : Nat} {g : Nat → Int × Int} (h : PairsC cs n k g) (hk : k < n) (a b : Int) : PairsC ((cs.setIfInBounds (k * 2) (.int .i64 a)).setIfInBounds (k * 2 + 1) (.int .i64 b)) n (k + 1) (fun j => if j = k then (a, b) else g j) := by
  have hs := h.1
  refine ⟨by rw [Array.size_setIfInBounds, Array.size_setIfInBounds]; exact hs, fun j hj => ?_⟩
  simp only [Array.getElem?_setIfInBounds, Array.size_setIfInBounds]
  by_cases hjk : j = k
  · subst hjk
    have h2 : j * 2 < cs.size := by omega
    have h3 : j * 2 + 1 < cs.size := by omega
    simp [h2, h3]
  · have h1 : ¬ (k * 2 + 1 = j * 2) := by omega
    have h2 : ¬ (k * 2 = j * 2) := by omega
    have h3 : ¬ (k * 2 + 1 = j * 2 + 1) := by omega
    have h4 : ¬ (k * 2 = j * 2 + 1) := by omega
    rw [if_neg h1, if_neg h2, if_neg h3, if_neg h4, if_neg hjk]
    exact h.2 j (by omega)
theorem PairsC.at_ {cs : Array Value} {n k j : Nat} {g : Nat → Int × Int} (h : PairsC cs n k g) {w : World} {G : Nat} {t : TypeId} (hb : Box w G t cs) (hj : j < k) : w.cell? ⟨G, j * 2, none⟩ = some (.int .i64 (g j).1) ∧ w.cell? ⟨G, j * 2 + 1, none⟩ = some (.int .i64 (g j).2) := by
  rw [hb.cell, hb.cell]; exact h.2 j hj
theorem PairsC.ex {cs : Array Value} {n k m : Nat} {g : Nat → Int × Int} (h : PairsC cs n k g) {w : World} {G : Nat} {t : TypeId} (hb : Box w G t cs) (hm : m < n) : (∃ y, w.cell? ⟨G, m * 2, none⟩ = some y) ∧ ∃ y, w.cell? ⟨G, m * 2 + 1, none⟩ = some y := by
  have hs := h.1
  rw [hb.cell, hb.cell]
  exact ⟨⟨cs[m * 2]'(by omega), Array.getElem?_eq_getElem _⟩, ⟨cs[m * 2 + 1]'(by omega), Array.getElem?_eq_getElem _⟩⟩
theorem PairsC.same {cs : Array Value} {n k : Nat} {g h : Nat → Int × Int} (p : PairsC cs n k g) (e : ∀ j, j < k → g j = h j) : PairsC cs n k h := ⟨p.1, fun j hj => by rw [← e j hj]; exact p.2 j hj⟩
theorem Tryz.infoIv : (Tryz.prog.info? 88).map (fun i => (i.zero, i.size, i.bytes)) = some (some (.agg #[.int .i64 0, .int .i64 0]), 2, 16) := by kernel_rfl

theorem mk_iv (n : Nat) (hn : n ≤ 1048576) (w : World) :
    (Instr.makeSlice 82 (.int .i64 (n : Int)) (.int .i64 (n : Int))).run Tryz.prog w = .ok (.slice (some ⟨w.heap.size, 0, none⟩) n n) (w.alloc (.cells (madeCells #[.int .i64 0, .int .i64 0] (n * 2)) 88)) := by
  obtain ⟨i, hi, hzz⟩ := Option.map_eq_some_iff.1 Tryz.infoIv
  simp only [Prod.mk.injEq] at hzz
  obtain ⟨hz, hs, hb⟩ := hzz
  have hr := run_make (P := Tryz.prog) w 82 88 i _ Tryz.underlying82 hi hz .i64 .i64 n n (by omega) (Int.le_refl _) (by rw [hb]; omega) (by omega)
  simp only [Int.toNat_natCast, hs, Value.cells] at hr
  exact hr

/-- In the round: the expression's own box stands, and the intervals are as they were or the new one is laid. -/
def KeepY (w : World) (X G : Nat) (xs : Array Value) (cs ds : Array Value) (w' : World) : Prop := Box w' X 152 xs ∧ (Box w' G 88 cs ∨ Box w' G 88 ds) ∧ Below w.heap.size w w'
theorem KeepY.step {w w1 w2 : World} {X G : Nat} {xs cs ds : Array Value} (h : KeepY w X G xs cs ds w1) (hb : Below w1.heap.size w1 w2) : KeepY w X G xs cs ds w2 :=
  ⟨h.1.below hb h.1.lt, h.2.1.elim (fun k => .inl (k.below hb k.lt)) (fun k => .inr (k.below hb k.lt)), h.2.2.trans (hb.mono h.2.2.size)⟩
theorem set_set_same (cs : Array Value) (i j : Nat) (a b : Value) : ((((cs.setIfInBounds i a).setIfInBounds j b).setIfInBounds i a).setIfInBounds j b) = (cs.setIfInBounds i a).setIfInBounds j b := by
  apply Array.ext_getElem?
  intro m
  simp only [Array.getElem?_setIfInBounds, Array.size_setIfInBounds]
  by_cases h1 : j = m
  · subst h1
    simp
  · by_cases h2 : i = m
    · subst h2
      simp [h1]
    · simp [h1, h2]
theorem KeepY.put {w w1 : World} {X G k : Nat} {xs cs : Array Value} {a b : Value} (h : KeepY w X G xs cs ((cs.setIfInBounds (k * 2) a).setIfInBounds (k * 2 + 1) b) w1) (hX : X ≠ G) (hG : w.heap.size ≤ G) : KeepY w X G xs cs ((cs.setIfInBounds (k * 2) a).setIfInBounds (k * 2 + 1) b) ((w1.setCell ⟨G, k * 2, none⟩ a).setCell ⟨G, k * 2 + 1, none⟩ b) :=
  ⟨(h.1.far (Ne.symm hX) _ _).far (Ne.symm hX) _ _, .inr (h.2.1.elim (fun z => (z.set _ a).set _ b) (fun z => by
    have := (z.set (k * 2) a).set (k * 2 + 1) b
    rwa [set_set_same] at this)), (h.2.2.setCell (p := ⟨G, k * 2, none⟩) hG _).setCell (p := ⟨G, k * 2 + 1, none⟩) hG _⟩
/-- What a cell holds. -/
def cellOr (w : World) (a : Addr) : Value := (w.cell? a).getD (.bool false)
theorem cellOr_of {w : World} {a : Addr} {y : Value} (h : w.cell? a = some y) : w.cell? a = some (cellOr w a) := by rw [cellOr, h]; rfl
theorem KeepY.fin {w w1 : World} {X G k : Nat} {xs cs : Array Value} {a b : Value} (h : KeepY w X G xs cs ((cs.setIfInBounds (k * 2) a).setIfInBounds (k * 2 + 1) b) w1) (hG : w.heap.size ≤ G) : Box ((w1.setCell ⟨G, k * 2, none⟩ a).setCell ⟨G, k * 2 + 1, none⟩ b) G 88 ((cs.setIfInBounds (k * 2) a).setIfInBounds (k * 2 + 1) b) ∧ Below w.heap.size w ((w1.setCell ⟨G, k * 2, none⟩ a).setCell ⟨G, k * 2 + 1, none⟩ b) :=
  ⟨h.2.1.elim (fun z => (z.set _ a).set _ b) (fun z => by
    have := (z.set (k * 2) a).set (k * 2 + 1) b
    rwa [set_set_same] at this), (h.2.2.setCell (p := ⟨G, k * 2, none⟩) hG _).setCell (p := ⟨G, k * 2 + 1, none⟩) hG _⟩
theorem KeepY.two {w w' : World} {X G n k i j : Nat} {a0 a1 a2 a3 : Value} {cs : Array Value} {x y : Int} {g : Nat → Int × Int} (h : KeepY w X G #[a0, a1, a2, a3] cs ((cs.setIfInBounds (k * 2) (.int .i64 x)).setIfInBounds (k * 2 + 1) (.int .i64 y)) w') (hc : PairsC cs n k g) (hi : i < k) (hj : j < k) (hk : k < n) :
    w'.cell? ⟨X, 0, none⟩ = some a0 ∧ w'.cell? ⟨X, 1, none⟩ = some a1 ∧ w'.cell? ⟨X, 2, none⟩ = some a2 ∧ w'.cell? ⟨G, i * 2, none⟩ = some (.int .i64 (g i).1) ∧ w'.cell? ⟨G, i * 2 + 1, none⟩ = some (.int .i64 (g i).2) ∧ w'.cell? ⟨G, j * 2, none⟩ = some (.int .i64 (g j).1) ∧ w'.cell? ⟨G, j * 2 + 1, none⟩ = some (.int .i64 (g j).2) ∧ w'.frozen? ⟨G, k * 2, none⟩ = false ∧ w'.frozen? ⟨G, k * 2 + 1, none⟩ = false ∧ w'.cell? ⟨G, k * 2, none⟩ = some (cellOr w' ⟨G, k * 2, none⟩) ∧ w'.cell? ⟨G, k * 2 + 1, none⟩ = some (cellOr w' ⟨G, k * 2 + 1, none⟩) ∧ KeepY w X G #[a0, a1, a2, a3] cs ((cs.setIfInBounds (k * 2) (.int .i64 x)).setIfInBounds (k * 2 + 1) (.int .i64 y)) w' := by
  have key : ∀ m, m < k → w'.cell? ⟨G, m * 2, none⟩ = some (.int .i64 (g m).1) ∧ w'.cell? ⟨G, m * 2 + 1, none⟩ = some (.int .i64 (g m).2) := fun m hm => by
    rcases h.2.1 with b | b
    · exact hc.at_ b hm
    · have := (hc.put hk x y).at_ b (show m < k + 1 by omega)
      rwa [if_neg (by omega)] at this
  have kx : (∃ y, w'.cell? ⟨G, k * 2, none⟩ = some y) ∧ (∃ y, w'.cell? ⟨G, k * 2 + 1, none⟩ = some y) ∧ ∀ m, w'.frozen? ⟨G, m, none⟩ = false := by
    rcases h.2.1 with b | b
    · exact ⟨(hc.ex b hk).1, (hc.ex b hk).2, b.free⟩
    · exact ⟨((hc.put hk x y).ex b hk).1, ((hc.put hk x y).ex b hk).2, b.free⟩
  obtain ⟨⟨z0, e0⟩, ⟨z1, e1⟩, fz⟩ := kx
  exact ⟨h.1.cell 0, h.1.cell 1, h.1.cell 2, (key i hi).1, (key i hi).2, (key j hj).1, (key j hj).2, fz _, fz _, cellOr_of e0, cellOr_of e1, h⟩
theorem keepY_of {p0 p1 p2 p3 p4 p5 p6 p7 p8 p9 p10 K : Prop} (h : p0 ∧ p1 ∧ p2 ∧ p3 ∧ p4 ∧ p5 ∧ p6 ∧ p7 ∧ p8 ∧ p9 ∧ p10 ∧ K) : K := h.2.2.2.2.2.2.2.2.2.2.2

set_option maxRecDepth 100000 in
set_option maxHeartbeats 6400000 in
theorem implRgs_any (lo lo' : Nat) (Av Ax : Option Addr) (n cx m cv : Nat) (F : Nat → Nat → Int) (vn : Nat → ByteArray) (vz : Nat → Int) (w : World) (hx : exsOk F m n = true) (hnx : n ≤ 40) (_hnv : m ≤ 5) (hv : ∀ j, j < m → 1 ≤ vz j ∧ vz j ≤ 21) (h : ExL lo w Ax n F) (hi : VrAt lo' w Av m vn vz) :
    Calls Tryz.prog 61 #[.slice Av m cv, .slice Ax n cx] w fun r w' => ∃ G cs, r = .returned (.slice (some ⟨G, 0, none⟩) n n) ∧ w.heap.size ≤ G ∧ Box w' G 88 cs ∧ PairsC cs n n (rgs F vz n) ∧ Below w.heap.size w w' := by
  have hmk := mk_iv n (by omega)
  obtain ⟨G, hG⟩ : ∃ G, G = w.heap.size := ⟨_, rfl⟩
  have hX := Box.new w 88 (madeCells #[.int .i64 0, .int .i64 0] (n * 2))
  rw [← hG] at hX
  have hB := (Below.refl w.heap.size w).alloc (Nat.le_refl _) (.cells (madeCells #[.int .i64 0, .int .i64 0] (n * 2)) 88)
  have H := Lib.hid h
  have HI := Lib.hid hi
  have HX := Lib.hid hx
  have HF := Lib.hid hv
  clear h hi hx hv
  go_enter Tryz.func61, Tryz.ntmps61
  go_upto_region 2 with fail
  rw [← hG]
  have hG2 : w.heap.size ≤ G := by rw [hG]; exact Nat.le_refl _
  obtain ⟨w1, hw1⟩ : ∃ w1, w1 = w.alloc (.cells (madeCells #[.int .i64 0, .int .i64 0] (n * 2)) 88) := ⟨_, rfl⟩
  rw [← hw1] at hX hB ⊢
  clear hw1 hmk hG
  go_wp2_with fail
  go_loopg [13] n (fun q iv wr => ∃ (k : Nat) (cs' : Array Value), k + q = n ∧ iv = .int .i64 (k : Nat) ∧ Hid (PairsC cs' n k (rgs F vz k)) ∧ Box wr G 88 cs' ∧ Below w.heap.size w wr)
  case atStart => exact ⟨0, _, by omega, rfl, Lib.hid (PairsC.made n _), hX, hB⟩
  case round =>
    rename World => w3
    obtain ⟨k, cs3, hk, rfl, hc, hbx, hbel⟩ := hrel
    by_cases hk0 : k < n
    · obtain ⟨b, off, rfl, hb, r0, r1, r2, r3⟩ := (H.out.below hbel (Nat.le_refl _)).1.at_ hk0
      have hkn : (k : Int) < (n : Int) := by omega
      have ho := exsOk_at HX.out hk0
      have hne : w3.heap.size ≠ G := Nat.ne_of_gt hbx.lt
      have gin := fun j => rgs_in HX.out HF.out (show k ≤ n by omega) j
      by_cases o1 : F k 0 = 1
      · have o1b : (F k 0 == 1) = true := by rw [o1]; rfl
        have HV : Hid ((F k 3, F k 3) = exR (F k 0) (F k 1) (F k 2) (F k 3) (rgs F vz k) vz) := Lib.hid (by rw [exR, if_pos o1])
        have hV := Box.new w3 152 #[.int .i64 (F k 0), .int .i64 (F k 1), .int .i64 (F k 2), .int .i64 (F k 3)]
        have hal := (Below.refl w3.heap.size w3).alloc (Nat.le_refl _) (.cells #[.int .i64 (F k 0), .int .i64 (F k 1), .int .i64 (F k 2), .int .i64 (F k 3)] 152)
        have v0 := hV.cell 0
        have v1 := hV.cell 1
        have v2 := hV.cell 2
        have v3 := hV.cell 3
        have hbx4 := hbx.alloc (.cells #[.int .i64 (F k 0), .int .i64 (F k 1), .int .i64 (F k 2), .int .i64 (F k 3)] 152)
        have hB4 := hbel.trans (hal.mono hbel.size)
        obtain ⟨⟨y0, k0⟩, y1, k1⟩ := hc.out.ex hbx4 hk0
        have f0 := hbx4.free (k * 2)
        have f1 := hbx4.free (k * 2 + 1)
        clear ho o1 gin
        go_wp2_with fail
        go_roundg (gk - 1)
        case rel => exact ⟨k + 1, _, by omega, by go_num, Lib.hid (by rw [rgs_succ, ← HV.out]; exact hc.out.put hk0 _ _), (hbx4.set _ _).set _ _, (hB4.setCell (p := ⟨G, k * 2, none⟩) hG2 _).setCell (p := ⟨G, k * 2 + 1, none⟩) hG2 _⟩
        case measure => omega
      · have o1b : (F k 0 == 1) = false := beq_eq_false_iff_ne.2 o1
        by_cases o2 : F k 0 = 2
        · have o2b : (F k 0 == 2) = true := by rw [o2]; rfl
          simp only [exOk, if_neg o1, if_pos o2, decide_eq_true_eq] at ho
          obtain ⟨m2, hm2⟩ : ∃ m2 : Nat, F k 3 = (m2 : Int) := ⟨(F k 3).toNat, by omega⟩
          have hmn : m2 < m := by omega
          obtain ⟨bw, ow, rfl, hbw, s0, s1⟩ := (HI.out.below hbel (Nat.le_refl _)).at_ hmn
          rw [hm2] at r3
          have hV := Box.new w3 152 #[.int .i64 (F k 0), .int .i64 (F k 1), .int .i64 (F k 2), .int .i64 (m2 : Nat)]
          have hal := (Below.refl w3.heap.size w3).alloc (Nat.le_refl _) (.cells #[.int .i64 (F k 0), .int .i64 (F k 1), .int .i64 (F k 2), .int .i64 (m2 : Nat)] 152)
          have v0 := hV.cell 0
          have v1 := hV.cell 1
          have v2 := hV.cell 2
          have v3 := hV.cell 3
          have hbx4 := hbx.alloc (.cells #[.int .i64 (F k 0), .int .i64 (F k 1), .int .i64 (F k 2), .int .i64 (m2 : Nat)] 152)
          have hB4 := hbel.trans (hal.mono hbel.size)
          obtain ⟨⟨y0, k0⟩, y1, k1⟩ := hc.out.ex hbx4 hk0
          have f0 := hbx4.free (k * 2)
          have f1 := hbx4.free (k * 2 + 1)
          have s1' := (hal.cell (p := ⟨bw, ow + m2 * 2 + 1, none⟩) hbw).trans s1
          have hmm : (m2 : Int) < (m : Int) := by omega
          have hz := HF.out m2 hmn
          have wz : IntKind.i64.wrap (vz m2 - 1) = vz m2 - 1 := IntWalk.i64_in _ (by omega)
          have HV : Hid ((0, vz m2 - 1) = exR (F k 0) (F k 1) (F k 2) (F k 3) (rgs F vz k) vz) := Lib.hid (by rw [exR, if_neg o1, if_pos o2, hm2, Int.toNat_natCast])
          clear ho o1 o2 gin hm2 hz
          go_wp2_with fail
          go_roundg (gk - 1)
          case rel => exact ⟨k + 1, _, by omega, by go_num, Lib.hid (by rw [rgs_succ, ← HV.out]; exact hc.out.put hk0 _ _), (hbx4.set _ _).set _ _, (hB4.setCell (p := ⟨G, k * 2, none⟩) hG2 _).setCell (p := ⟨G, k * 2 + 1, none⟩) hG2 _⟩
          case measure => omega
        · have o2b : (F k 0 == 2) = false := beq_eq_false_iff_ne.2 o2
          have hab : (3 ≤ F k 0 ∧ F k 0 ≤ 10) ∧ (0 ≤ F k 1 ∧ F k 1 < (k : Int)) ∧ 0 ≤ F k 2 ∧ F k 2 < (k : Int) := by
            by_cases o10 : F k 0 = 10
            · simp only [exOk, if_neg o1, if_neg o2, if_pos o10, decide_eq_true_eq] at ho
              omega
            · simp only [exOk, if_neg o1, if_neg o2, if_neg o10, decide_eq_true_eq] at ho
              omega
          obtain ⟨hop, ⟨ha0, ha1⟩, hb0, hb1⟩ := hab
          obtain ⟨i, hi⟩ : ∃ i : Nat, F k 1 = (i : Int) := ⟨(F k 1).toNat, by omega⟩
          obtain ⟨j, hj⟩ : ∃ j : Nat, F k 2 = (j : Int) := ⟨(F k 2).toNat, by omega⟩
          have hik : i < k := by omega
          have hjk : j < k := by omega
          have hin : (i : Int) < (n : Int) := by omega
          have hjn : (j : Int) < (n : Int) := by omega
          obtain ⟨x, y, hxy⟩ : ∃ x y, (x, y) = opR (F k 0) (rgs F vz k i).1 (rgs F vz k i).2 (rgs F vz k j).1 (rgs F vz k j).2 := ⟨_, _, rfl⟩
          have CO : Hid (∀ W, Calls Tryz.prog 122 #[.int .i64 (F k 0), .agg #[.int .i64 (rgs F vz k i).1, .int .i64 (rgs F vz k i).2], .agg #[.int .i64 (rgs F vz k j).1, .int .i64 (rgs F vz k j).2]] W fun e w' => e = .returned (.agg #[.int .i64 x, .int .i64 y]) ∧ Below W.heap.size W w') := Lib.hid fun W => by
            have := implRop_any (F k 0) (rgs F vz k i).1 (rgs F vz k i).2 (rgs F vz k j).1 (rgs F vz k j).2 W (gin i) (gin j) hop
            rw [← hxy] at this
            exact this
          have HV : Hid ((x, y) = exR (F k 0) (F k 1) (F k 2) (F k 3) (rgs F vz k) vz) := Lib.hid (by rw [opR_var o1 o2, hi, hj, Int.toNat_natCast, Int.toNat_natCast]; exact hxy)
          rw [hi] at r1
          rw [hj] at r2
          have hV := Box.new w3 152 #[.int .i64 (F k 0), .int .i64 (i : Nat), .int .i64 (j : Nat), .int .i64 (F k 3)]
          have hal := (Below.refl w3.heap.size w3).alloc (Nat.le_refl _) (.cells #[.int .i64 (F k 0), .int .i64 (i : Nat), .int .i64 (j : Nat), .int .i64 (F k 3)] 152)
          have v0 := hV.cell 0
          have v1 := hV.cell 1
          have v2 := hV.cell 2
          have v3 := hV.cell 3
          have hbx4 := hbx.alloc (.cells #[.int .i64 (F k 0), .int .i64 (i : Nat), .int .i64 (j : Nat), .int .i64 (F k 3)] 152)
          have hB4 := hbel.trans (hal.mono hbel.size)
          obtain ⟨⟨y0, k0⟩, y1, k1⟩ := hc.out.ex hbx4 hk0
          have f0 := hbx4.free (k * 2)
          have f1 := hbx4.free (k * 2 + 1)
          generalize hg1 : (rgs F vz k i).1 = i1 at CO
          generalize hg2 : (rgs F vz k i).2 = i2 at CO
          generalize hg3 : (rgs F vz k j).1 = j1 at CO
          generalize hg4 : (rgs F vz k j).2 = j2 at CO
          have HGI := Lib.hid (And.intro hg1 (And.intro hg2 (And.intro hg3 hg4)))
          have K0 : KeepY w w3.heap.size G #[.int .i64 (F k 0), .int .i64 (i : Nat), .int .i64 (j : Nat), .int .i64 (F k 3)] cs3 ((cs3.setIfInBounds (k * 2) (.int .i64 x)).setIfInBounds (k * 2 + 1) (.int .i64 y)) (w3.alloc (.cells #[.int .i64 (F k 0), .int .i64 (i : Nat), .int .i64 (j : Nat), .int .i64 (F k 3)] 152)) := ⟨hV, .inl hbx4, hB4⟩
          have HK0 := Lib.hid K0
          clear ho o1 o2 gin hxy hop ha0 ha1 hb0 hb1 hg1 hg2 hg3 hg4 hV K0 hi hj
          go_upto_region 6 with fail
          generalize hW : World.alloc w3 _ = W at HK0 k0 k1 f0 f1 hbx4 hB4 v0 v1 v2 v3 ⊢
          clear hW v0 v1 v2 v3 r0 r1 r2 r3 hal
          go_region_held3 (fun w' => w'.cell? ⟨w3.heap.size, 0, none⟩ = some (.int .i64 (F k 0)) ∧ w'.cell? ⟨w3.heap.size, 1, none⟩ = some (.int .i64 (i : Nat)) ∧ w'.cell? ⟨w3.heap.size, 2, none⟩ = some (.int .i64 (j : Nat)) ∧ w'.cell? ⟨G, i * 2, none⟩ = some (.int .i64 i1) ∧ w'.cell? ⟨G, i * 2 + 1, none⟩ = some (.int .i64 i2) ∧ w'.cell? ⟨G, j * 2, none⟩ = some (.int .i64 j1) ∧ w'.cell? ⟨G, j * 2 + 1, none⟩ = some (.int .i64 j2) ∧ w'.frozen? ⟨G, k * 2, none⟩ = false ∧ w'.frozen? ⟨G, k * 2 + 1, none⟩ = false ∧ w'.cell? ⟨G, k * 2, none⟩ = some (cellOr w' ⟨G, k * 2, none⟩) ∧ w'.cell? ⟨G, k * 2 + 1, none⟩ = some (cellOr w' ⟨G, k * 2 + 1, none⟩) ∧ KeepY w w3.heap.size G #[.int .i64 (F k 0), .int .i64 (i : Nat), .int .i64 (j : Nat), .int .i64 (F k 3)] cs3 ((cs3.setIfInBounds (k * 2) (.int .i64 x)).setIfInBounds (k * 2 + 1) (.int .i64 y)) w')
            ((rw [← HGI.out.1, ← HGI.out.2.1, ← HGI.out.2.2.1, ← HGI.out.2.2.2]; refine KeepY.two ?_ hc.out hik hjk hk0; first | exact HK0.out.step (Below.refl _ W).drew | exact keepY_of (by assumption) | exact KeepY.step (keepY_of (by assumption)) (by assumption) | exact KeepY.put (keepY_of (by assumption)) hne hG2))
            (first
              | (go_at_call 122; refine (CO.out _).mono ?_; rintro e w' ⟨rfl, hb'⟩; have hw9 := Lib.hid (KeepY.step (show KeepY w w3.heap.size G #[.int .i64 (F k 0), .int .i64 (i : Nat), .int .i64 (j : Nat), .int .i64 (F k 3)] cs3 ((cs3.setIfInBounds (k * 2) (.int .i64 x)).setIfInBounds (k * 2 + 1) (.int .i64 y)) _ from keepY_of (by assumption)) hb')))
          go_wp2_with fail
          go_roundg (gk - 1)
          case rel => exact ⟨k + 1, _, by omega, by go_num, Lib.hid (by rw [rgs_succ, ← HV.out]; exact hc.out.put hk0 x y), (hw9.out.fin hG2).1, (hw9.out.fin hG2).2⟩
          case measure => omega
    · obtain rfl : k = n := by omega
      go_wp2_with fail
      go_ret
      exact ⟨G, cs3, rfl, hG2, hbx, hc.out, hbel⟩

end Go.Proofs.YtdeilceakhgjlaaGreat
