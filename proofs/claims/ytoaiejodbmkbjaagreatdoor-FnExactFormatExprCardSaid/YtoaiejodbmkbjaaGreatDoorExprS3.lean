/-
  Lists of expressions: the law's copies and comparisons of them.
-/
import Derived.Test.YtoaiejodbmkbjaaGreatDoorExpr3
import Derived.Laws.MakeOwn
namespace Go.Proofs.YtoaiejodbmkbjaaGreatDoor
open Go.RowKit Num

/-- n expressions stand in a row from the address on. -/
def ExAt (w : World) (A : Option Addr) (n : Nat) (F : Nat → Nat → Int) : Prop :=
  0 < n → ∃ b off, A = some ⟨b, off, none⟩ ∧ b < w.heap.size ∧ ∀ j, j < n → ∀ c, c < 4 → w.cell? ⟨b, off + (j * 4 + c), none⟩ = some (.int .i64 (F j c))

theorem ExAt.below {B : Nat} {w w' : World} {A : Option Addr} {n : Nat} {F : Nat → Nat → Int} (h : ExAt w A n F) (hb : Below B w w') (hB : w.heap.size ≤ B) : ExAt w' A n F := fun h0 => by
  obtain ⟨b, off, rfl, h1, h2⟩ := h h0
  exact ⟨b, off, rfl, Nat.lt_of_lt_of_le h1 hb.size, fun j hj c hc => (hb.cell (p := ⟨b, off + (j * 4 + c), none⟩) (Nat.lt_of_lt_of_le h1 hB)).trans (h2 j hj c hc)⟩

theorem ExAt.at_ {w : World} {A : Option Addr} {n : Nat} {F : Nat → Nat → Int} (h : ExAt w A n F) {j : Nat} (hj : j < n) :
    ∃ b off, A = some ⟨b, off, none⟩ ∧ b < w.heap.size ∧ w.cell? ⟨b, off + j * 4, none⟩ = some (.int .i64 (F j 0)) ∧ w.cell? ⟨b, off + j * 4 + 1, none⟩ = some (.int .i64 (F j 1)) ∧ w.cell? ⟨b, off + j * 4 + 2, none⟩ = some (.int .i64 (F j 2)) ∧ w.cell? ⟨b, off + j * 4 + 3, none⟩ = some (.int .i64 (F j 3)) := by
  obtain ⟨b, off, rfl, h1, h2⟩ := h (by omega)
  exact ⟨b, off, rfl, h1, h2 j hj 0 (by omega), h2 j hj 1 (by omega), h2 j hj 2 (by omega), h2 j hj 3 (by omega)⟩

theorem Tryz.infoEx : (Tryz.prog.info? 80).map (fun i => (i.zero, i.size, i.bytes)) = some (some (.agg #[.int .i64 0, .int .i64 0, .int .i64 0, .int .i64 0]), 4, 32) := by kernel_rfl

theorem mk_ex (n : Nat) (hn : n ≤ 1048576) (w : World) :
    (Instr.makeSlice 33 (.int .i64 (n : Int)) (.int .i64 (n : Int))).run Tryz.prog w = .ok (.slice (some ⟨w.heap.size, 0, none⟩) n n) (w.alloc (.cells (madeCells #[.int .i64 0, .int .i64 0, .int .i64 0, .int .i64 0] (n * 4)) 80)) := by
  obtain ⟨i, hi, hzz⟩ := Option.map_eq_some_iff.1 Tryz.infoEx
  simp only [Prod.mk.injEq] at hzz
  obtain ⟨hz, hs, hb⟩ := hzz
  have hr := run_make (P := Tryz.prog) w 33 80 i _ Tryz.underlying33 hi hz .i64 .i64 n n (by omega) (Int.le_refl _) (by rw [hb]; omega) (by omega)
  simp only [Int.toNat_natCast, hs, Value.cells] at hr
  exact hr

theorem toEx_any (op a b v : Int) (w : World) :
    Calls Tryz.prog 44 #[.agg #[.int .i64 op, .int .i64 a, .int .i64 b, .int .i64 v]] w fun e w' => e = .returned (.agg #[.int .i64 op, .int .i64 a, .int .i64 b, .int .i64 v]) ∧ Below w.heap.size w w' := by
  have hbox := Box.new w 87 #[.int .i64 op, .int .i64 a, .int .i64 b, .int .i64 v]
  have q0 := hbox.cell 0
  have q1 := hbox.cell 1
  have q2 := hbox.cell 2
  have q3 := hbox.cell 3
  go_enter Tryz.func44, Tryz.ntmps44
  go_wp2_with fail
  have hb2 := (Box.new (w.alloc (.cells #[.int .i64 op, .int .i64 a, .int .i64 b, .int .i64 v] 87)) 80 #[.int .i64 op, .int .i64 a, .int .i64 b, .int .i64 v]).alloc (.cells #[.int .i64 op, .int .i64 a, .int .i64 b, .int .i64 v] 80)
  rw [show (w.alloc (.cells #[.int .i64 op, .int .i64 a, .int .i64 b, .int .i64 v] 87)).heap.size = w.heap.size + 1 by simp] at hb2
  have k0 := hb2.cell 0
  have k1 := hb2.cell 1
  have k2 := hb2.cell 2
  have k3 := hb2.cell 3
  refine bodyPost_ret (v := .agg #[.int .i64 op, .int .i64 a, .int .i64 b, .int .i64 v]) (by simp [results, Tryz.results44, go_sem, k0, k1, k2, k3]; done) rfl ⟨rfl, ?_⟩
  exact (((Below.refl _ w).alloc (Nat.le_refl _) _).alloc (by simp) _).alloc (by simp; omega) _

theorem four {w : World} {g : Nat} {t : TypeId} {cs : Array Value} (h : Box w g t cs) (i : Nat) (hi : i + 4 ≤ cs.size) :
    w.cell? ⟨g, i, none⟩ = some (cs.getD i undef) ∧ w.cell? ⟨g, i + 1, none⟩ = some (cs.getD (i + 1) undef) ∧ w.cell? ⟨g, i + 2, none⟩ = some (cs.getD (i + 2) undef) ∧ w.cell? ⟨g, i + 3, none⟩ = some (cs.getD (i + 3) undef) ∧
    w.frozen? ⟨g, i, none⟩ = false ∧ w.frozen? ⟨g, i + 1, none⟩ = false ∧ w.frozen? ⟨g, i + 2, none⟩ = false ∧ w.frozen? ⟨g, i + 3, none⟩ = false := by
  refine ⟨?_, ?_, ?_, ?_, h.free _, h.free _, h.free _, h.free _⟩
  all_goals rw [h.cell, Array.getD, dif_pos (by omega), Array.getElem?_eq_getElem (by omega)]; rfl

theorem fill4 (k n : Nat) (cs : Array Value) (F : Nat → Nat → Int) (hcs : cs.size = n * 4) (hk : k < n) (h : ∀ j, j < k → ∀ c, c < 4 → cs[j * 4 + c]? = some (.int .i64 (F j c))) :
    ∀ j, j < k + 1 → ∀ c, c < 4 → ((((cs.setIfInBounds (k * 4) (.int .i64 (F k 0))).setIfInBounds (k * 4 + 1) (.int .i64 (F k 1))).setIfInBounds (k * 4 + 2) (.int .i64 (F k 2))).setIfInBounds (k * 4 + 3) (.int .i64 (F k 3)))[j * 4 + c]? = some (.int .i64 (F j c)) := by
  intro j hj c hc
  simp only [Array.getElem?_setIfInBounds, Array.size_setIfInBounds]
  by_cases hjk : j < k
  · rw [if_neg (by omega), if_neg (by omega), if_neg (by omega), if_neg (by omega)]
    exact h j hjk c hc
  · obtain rfl : j = k := by omega
    match c, hc with
    | 0, _ => rw [if_neg (by omega), if_neg (by omega), if_neg (by omega), if_pos (by omega), if_pos (by omega)]
    | 1, _ => rw [if_neg (by omega), if_neg (by omega), if_pos (by omega), if_pos (by omega)]
    | 2, _ => rw [if_neg (by omega), if_pos (by omega), if_pos (by omega)]
    | 3, _ => rw [if_pos (by omega), if_pos (by omega)]

set_option maxRecDepth 100000 in
set_option maxHeartbeats 1600000 in
theorem toExS_any (A0 : Option Addr) (n cap : Nat) (F : Nat → Nat → Int) (w : World) (hn : n ≤ 1048576) (hA : ExAt w A0 n F) :
    Calls Tryz.prog 19 #[.slice A0 n cap] w fun e w' => (∃ g, e = .returned (.slice (some ⟨g, 0, none⟩) n n) ∧ ExAt w' (some ⟨g, 0, none⟩) n F) ∧ Below w.heap.size w w' := by
  have hmk := mk_ex n hn
  have HA := Lib.hid hA; clear hA
  go_enter Tryz.func19, Tryz.ntmps19
  go_wp2_with fail
  clear hmk
  obtain ⟨G, hG⟩ : ∃ G, G = w.heap.size := ⟨_, rfl⟩
  rw [← hG]
  have HG := Lib.hid hG; clear hG
  go_loopw [4] (fun i wr => ∃ (k : Nat) (cs : Array Value), (k ≤ n ∧ cs.size = n * 4 ∧ ∀ j, j < k → ∀ c, c < 4 → cs[j * 4 + c]? = some (.int .i64 (F j c))) ∧ Box wr G 80 cs ∧ Below w.heap.size w wr ∧ i = .int .i64 (k : Int)) (fun i _ => ((n : Int) - intOf i).toNat)
  case atStart =>
    refine ⟨0, madeCells #[.int .i64 0, .int .i64 0, .int .i64 0, .int .i64 0] (n * 4), ⟨by omega, size_madeCells _ _, fun j h => by omega⟩, ?_, ?_, rfl⟩
    · rw [HG.out]; exact Box.new w _ _
    · exact (Below.refl _ w).alloc (Nat.le_refl _) _
  case round =>
    obtain ⟨k, cs, hk', hbx, hB, rfl⟩ := hrel
    obtain ⟨hk, hcs, hfill⟩ := hk'
    have Hfill := Lib.hid hfill; clear hfill
    have HB := Lib.hid hB; clear hB
    by_cases hk0 : k < n
    · have hAw : ExAt wr A0 n F := HA.out.below HB.out (Nat.le_refl _)
      obtain ⟨b, off, rfl, hb, r0, r1, r2, r3⟩ := hAw.at_ hk0
      have Hb := Lib.hid hb; clear hb hAw
      go_wp2_with (go_at_call 44; refine (toEx_any _ _ _ _ _).mono ?_; rintro e w1 ⟨rfl, hb1⟩; replace hbx := hbx.below hb1 hbx.lt; replace HB := Lib.hid (HB.out.trans (hb1.mono HB.out.size)); obtain ⟨k0, k1, k2, k3, f0, f1, f2, f3⟩ := four hbx (k * 4) (by omega))
      refine ⟨⟨k + 1, _, ⟨by omega, ?_, ?_⟩, (((hbx.set _ _).set _ _).set _ _).set _ _, ?_, by simp⟩, by simp [intOf]; omega⟩
      · simp [hcs]
      · exact fill4 k n cs F hcs hk0 Hfill.out
      · have hG2 : w.heap.size ≤ G := by rw [HG.out]; exact Nat.le_refl _
        exact (((HB.out.setCell (p := ⟨G, k * 4, none⟩) hG2 _).setCell (p := ⟨G, k * 4 + 1, none⟩) hG2 _).setCell (p := ⟨G, k * 4 + 2, none⟩) hG2 _).setCell (p := ⟨G, k * 4 + 3, none⟩) hG2 _
    · obtain rfl : k = n := by omega
      go_wp2_with fail
      go_ret
      refine ⟨⟨G, rfl, fun _ => ⟨G, 0, rfl, hbx.lt, fun j hj c hc => ?_⟩⟩, ?_⟩
      · rw [hbx.cell]; rw [Nat.zero_add]; exact Hfill.out j hj c hc
      · exact HB.out

end Go.Proofs.YtoaiejodbmkbjaaGreatDoor
