/-
  Programs: the law's copies.
-/
import Derived.Test.YtoaiejodbmkbjaaGreatDoorPg
import Derived.Laws.MakeOwn
import Derived.Deep.LoopGhost
import Derived.Deep.DeepCutAuto
import Derived.Deep.RegionHeld3
namespace Go.Proofs.YtoaiejodbmkbjaaGreatDoor
open Go.RowKit Num

theorem Tryz.infoInt : (Tryz.prog.info? 3).map (fun i => (i.zero, i.size, i.bytes)) = some (some (.int .i64 0), 1, 8) := by kernel_rfl

theorem mk_int (n : Nat) (hn : n ≤ 1048576) (w : World) :
    (Instr.makeSlice 26 (.int .i64 (n : Int)) (.int .i64 (n : Int))).run Tryz.prog w = .ok (.slice (some ⟨w.heap.size, 0, none⟩) n n) (w.alloc (.cells (madeCells #[.int .i64 0] n) 3)) := by
  obtain ⟨i, hi, hzz⟩ := Option.map_eq_some_iff.1 Tryz.infoInt
  simp only [Prod.mk.injEq] at hzz
  obtain ⟨hz, hs, hb⟩ := hzz
  have hr := run_make (P := Tryz.prog) w 26 3 i _ Tryz.underlying26 hi hz .i64 .i64 n n (by omega) (Int.le_refl _) (by rw [hb]; omega) (by omega)
  simp only [Int.toNat_natCast, hs, Value.cells, Nat.mul_one] at hr
  exact hr

set_option maxRecDepth 100000 in
set_option maxHeartbeats 1600000 in
theorem toIntS_any (lo : Nat) (A0 : Option Addr) (n cap : Nat) (f : Nat → Int) (w : World) (hn : n ≤ 1048576) (hA : IntsAt lo w A0 n f) :
    Calls Tryz.prog 22 #[.slice A0 n cap] w fun e w' => (∃ g, e = .returned (.slice (some ⟨g, 0, none⟩) n n) ∧ IntsAt w.heap.size w' (some ⟨g, 0, none⟩) n f) ∧ Below w.heap.size w w' := by
  have hmk := mk_int n hn
  have HA := Lib.hid hA; clear hA
  go_enter Tryz.func22, Tryz.ntmps22
  go_wp2_with fail
  clear hmk
  obtain ⟨G, hG⟩ : ∃ G, G = w.heap.size := ⟨_, rfl⟩
  rw [← hG]
  have HG := Lib.hid hG; clear hG
  go_loopw [4] (fun i wr => ∃ (k : Nat) (cs : Array Value), (k ≤ n ∧ cs.size = n ∧ ∀ j, j < k → cs[j]? = some (.int .i64 (f j))) ∧ Box wr G 3 cs ∧ Below w.heap.size w wr ∧ i = .int .i64 (k : Int)) (fun i _ => ((n : Int) - intOf i).toNat)
  case atStart =>
    refine ⟨0, madeCells #[.int .i64 0] n, ⟨by omega, size_madeCells _ _, fun j h => by omega⟩, ?_, ?_, rfl⟩
    · rw [HG.out]; exact Box.new w _ _
    · exact (Below.refl _ w).alloc (Nat.le_refl _) _
  case round =>
    obtain ⟨k, cs, hk', hbx, hB, rfl⟩ := hrel
    obtain ⟨hk, hcs, hfill⟩ := hk'
    have Hfill := Lib.hid hfill; clear hfill
    have HB := Lib.hid hB; clear hB
    by_cases hk0 : k < n
    · have hAw : IntsAt lo wr A0 n f := HA.out.below HB.out (Nat.le_refl _)
      obtain ⟨b, off, rfl, hb, r0⟩ := hAw.at_ hk0
      have Hb := Lib.hid hb; clear hb hAw
      have k0 : wr.cell? ⟨G, k, none⟩ = some (cs.getD k undef) := by rw [hbx.cell, Array.getD, dif_pos (by omega), Array.getElem?_eq_getElem (by omega)]; rfl
      have f0 : wr.frozen? ⟨G, k, none⟩ = false := hbx.free _
      go_wp2_with fail
      refine ⟨⟨k + 1, _, ⟨by omega, ?_, ?_⟩, hbx.set _ _, ?_, by simp⟩, by simp [intOf]; omega⟩
      · simp [hcs]
      · intro j hj
        rw [Array.getElem?_setIfInBounds]
        by_cases hjk : j < k
        · rw [if_neg (by omega)]; exact Hfill.out j hjk
        · obtain rfl : j = k := by omega
          rw [if_pos rfl, if_pos (by omega)]
      · have hG2 : w.heap.size ≤ G := by rw [HG.out]; exact Nat.le_refl _
        exact HB.out.setCell (p := ⟨G, k, none⟩) hG2 _
    · obtain rfl : k = n := by omega
      go_wp2_with fail
      go_ret
      exact ⟨⟨G, rfl, IntsAt.of_box (by rw [HG.out]; exact Nat.le_refl _) hbx Hfill.out⟩, HB.out⟩

theorem two_at {w : World} {g : Nat} {t : TypeId} {cs : Array Value} (h : Box w g t cs) (i : Nat) (hi : i + 2 ≤ cs.size) :
    w.cell? ⟨g, i, none⟩ = some (cs.getD i undef) ∧ w.cell? ⟨g, i + 1, none⟩ = some (cs.getD (i + 1) undef) ∧ w.frozen? ⟨g, i, none⟩ = false ∧ w.frozen? ⟨g, i + 1, none⟩ = false := by
  refine ⟨?_, ?_, h.free _, h.free _⟩
  all_goals rw [h.cell, Array.getD, dif_pos (by omega), Array.getElem?_eq_getElem (by omega)]; rfl

theorem eight_at {w : World} {g : Nat} {t : TypeId} {cs : Array Value} (h : Box w g t cs) (i : Nat) (hi : i + 8 ≤ cs.size) :
    w.cell? ⟨g, i, none⟩ = some (cs.getD i undef) ∧ w.cell? ⟨g, i + 1, none⟩ = some (cs.getD (i + 1) undef) ∧ w.cell? ⟨g, i + 2, none⟩ = some (cs.getD (i + 2) undef) ∧ w.cell? ⟨g, i + 3, none⟩ = some (cs.getD (i + 3) undef) ∧
    w.cell? ⟨g, i + 4, none⟩ = some (cs.getD (i + 4) undef) ∧ w.cell? ⟨g, i + 5, none⟩ = some (cs.getD (i + 5) undef) ∧ w.cell? ⟨g, i + 6, none⟩ = some (cs.getD (i + 6) undef) ∧ w.cell? ⟨g, i + 7, none⟩ = some (cs.getD (i + 7) undef) ∧
    w.frozen? ⟨g, i, none⟩ = false ∧ w.frozen? ⟨g, i + 1, none⟩ = false ∧ w.frozen? ⟨g, i + 2, none⟩ = false ∧ w.frozen? ⟨g, i + 3, none⟩ = false ∧ w.frozen? ⟨g, i + 4, none⟩ = false ∧ w.frozen? ⟨g, i + 5, none⟩ = false ∧ w.frozen? ⟨g, i + 6, none⟩ = false ∧ w.frozen? ⟨g, i + 7, none⟩ = false := by
  refine ⟨?_, ?_, ?_, ?_, ?_, ?_, ?_, ?_, h.free _, h.free _, h.free _, h.free _, h.free _, h.free _, h.free _, h.free _⟩
  all_goals rw [h.cell, Array.getD, dif_pos (by omega), Array.getElem?_eq_getElem (by omega)]; rfl

theorem Box.two {w : World} {g : Nat} {t : TypeId} {a b : Value} (h : Box w g t #[a, b]) : w.cell? ⟨g, 0, none⟩ = some a ∧ w.cell? ⟨g, 1, none⟩ = some b ∧ w.frozen? ⟨g, 0, none⟩ = false ∧ w.frozen? ⟨g, 1, none⟩ = false :=
  ⟨h.cell 0, h.cell 1, h.free 0, h.free 1⟩

theorem Tryz.infoChoice : (Tryz.prog.info? 119).map (fun i => (i.zero, i.size, i.bytes)) = some (some (.agg #[.int .i64 0, .int .i64 0]), 2, 16) := by kernel_rfl

theorem mk_Choice (n : Nat) (hn : n ≤ 1048576) (w : World) :
    (Instr.makeSlice 75 (.int .i64 (n : Int)) (.int .i64 (n : Int))).run Tryz.prog w = .ok (.slice (some ⟨w.heap.size, 0, none⟩) n n) (w.alloc (.cells (madeCells #[.int .i64 0, .int .i64 0] (n * 2)) 119)) := by
  obtain ⟨i, hi, hzz⟩ := Option.map_eq_some_iff.1 Tryz.infoChoice
  simp only [Prod.mk.injEq] at hzz
  obtain ⟨hz, hs, hb⟩ := hzz
  have hr := run_make (P := Tryz.prog) w 75 119 i _ Tryz.underlying75 hi hz .i64 .i64 n n (by omega) (Int.le_refl _) (by rw [hb]; omega) (by omega)
  simp only [Int.toNat_natCast, hs, Value.cells] at hr
  exact hr

set_option maxRecDepth 100000 in
theorem toChoice_any (a b : Int) (w : World) :
    Calls Tryz.prog 79 #[.agg #[.int .i64 a, .int .i64 b]] w fun e w' => e = .returned (.agg #[.int .i64 a, .int .i64 b]) ∧ Below w.heap.size w w' := by
  have hbox := Box.new w 121 #[.int .i64 a, .int .i64 b]
  have q0 := hbox.cell 0
  have q1 := hbox.cell 1
  go_enter Tryz.func79, Tryz.ntmps79
  go_wp2_with fail
  have hb2 := (Box.new (w.alloc (.cells #[.int .i64 a, .int .i64 b] 121)) 119 #[.int .i64 a, .int .i64 b]).alloc (.cells #[.int .i64 a, .int .i64 b] 119)
  rw [show (w.alloc (.cells #[.int .i64 a, .int .i64 b] 121)).heap.size = w.heap.size + 1 by simp] at hb2
  have k0 := hb2.cell 0
  have k1 := hb2.cell 1
  refine bodyPost_ret (v := .agg #[.int .i64 a, .int .i64 b]) (by simp [results, Tryz.results79, go_sem, k0, k1]; done) rfl ⟨rfl, ?_⟩
  exact (((Below.refl _ w).alloc (Nat.le_refl _) _).alloc (by simp) _).alloc (by simp; omega) _

set_option maxRecDepth 100000 in
set_option maxHeartbeats 1600000 in
theorem toChoiceS_any (lo : Nat) (A0 : Option Addr) (n cap : Nat) (ch : Nat → Int × Int) (w : World) (hn : n ≤ 1048576) (hA : ChAt lo w A0 n ch) (hs : True) :
    Calls Tryz.prog 64 #[.slice A0 n cap] w fun e w' => (∃ g, e = .returned (.slice (some ⟨g, 0, none⟩) n n) ∧ ChAt w.heap.size w' (some ⟨g, 0, none⟩) n ch) ∧ Below w.heap.size w w' := by
  have hmk := mk_Choice n hn
  have HA := Lib.hid hA; clear hA
  have HS := Lib.hid hs; clear hs
  go_enter Tryz.func64, Tryz.ntmps64
  go_wp2_with fail
  clear hmk
  obtain ⟨G, hG⟩ : ∃ G, G = w.heap.size := ⟨_, rfl⟩
  rw [← hG]
  have HG := Lib.hid hG; clear hG
  go_loopw [4] (fun i wr => ∃ (k : Nat) (cs : Array Value), (k ≤ n ∧ cs.size = n * 2 ∧ ∀ j, j < k → ∃ C : Nat → Value, ChR ch wr j C ∧ ∀ c, c < 2 → cs[j * 2 + c]? = some (C c)) ∧ Box wr G 119 cs ∧ Below w.heap.size w wr ∧ i = .int .i64 (k : Int)) (fun i _ => ((n : Int) - intOf i).toNat)
  case atStart =>
    refine ⟨0, madeCells #[.int .i64 0, .int .i64 0] (n * 2), ⟨by omega, size_madeCells _ _, fun j h => by omega⟩, ?_, ?_, rfl⟩
    · rw [HG.out]; exact Box.new w _ _
    · exact (Below.refl _ w).alloc (Nat.le_refl _) _
  case round =>
    obtain ⟨k, cs, hk', hbx, hB, rfl⟩ := hrel
    obtain ⟨hk, hcs, hfill⟩ := hk'
    have Hfill := Lib.hid hfill; clear hfill
    have HB := Lib.hid hB; clear hB
    by_cases hk0 : k < n
    · have hAw : ChAt lo wr A0 n ch := HA.out.below HB.out (Nat.le_refl _)
      obtain ⟨b, off, rfl, hb, r0, r1⟩ := hAw.at_ hk0
      have Hb := Lib.hid hb; clear hb hAw
      go_wp2_with (go_at_call 79; refine (toChoice_any _ _ _).mono ?_; rintro e w1 ⟨rfl, hb1⟩; replace hbx := hbx.below hb1 hbx.lt; have Hb1 := Lib.hid hb1; replace HB := Lib.hid (HB.out.trans (hb1.mono HB.out.size)); clear hb1; obtain ⟨k0, k1, f0, f1⟩ := two_at hbx (k * 2) (by omega))
      refine ⟨⟨k + 1, _, ⟨by omega, ?_, ?_⟩, (hbx.set _ _).set _ _, ?_, by simp⟩, by simp [intOf]; omega⟩
      · simp [hcs]
      · have hG2 : wr.heap.size ≤ wr.heap.size := Nat.le_refl _
        exact fill2 hcs hk0 Hfill.out _ _ (fun c => match c with | 0 => .int .i64 (ch k).1 | _ => .int .i64 (ch k).2) ⟨rfl, rfl⟩ rfl rfl
      · have hG2 : w.heap.size ≤ G := by rw [HG.out]; exact Nat.le_refl _
        exact ((HB.out.setCell (p := ⟨G, k * 2, none⟩) hG2 _).setCell (p := ⟨G, k * 2 + 1, none⟩) hG2 _)
    · obtain rfl : k = n := by omega
      go_wp2_with fail
      go_ret
      exact ⟨⟨G, rfl, Arr.of_box (by rw [HG.out]; exact Nat.le_refl _) hbx Hfill.out⟩, HB.out⟩

theorem Tryz.infoVar : (Tryz.prog.info? 82).map (fun i => (i.zero, i.size, i.bytes)) = some (some (.agg #[.string ⟨#[]⟩, .int .i64 0]), 2, 24) := by kernel_rfl

theorem mk_Var (n : Nat) (hn : n ≤ 1048576) (w : World) :
    (Instr.makeSlice 32 (.int .i64 (n : Int)) (.int .i64 (n : Int))).run Tryz.prog w = .ok (.slice (some ⟨w.heap.size, 0, none⟩) n n) (w.alloc (.cells (madeCells #[.string ⟨#[]⟩, .int .i64 0] (n * 2)) 82)) := by
  obtain ⟨i, hi, hzz⟩ := Option.map_eq_some_iff.1 Tryz.infoVar
  simp only [Prod.mk.injEq] at hzz
  obtain ⟨hz, hs, hb⟩ := hzz
  have hr := run_make (P := Tryz.prog) w 32 82 i _ Tryz.underlying32 hi hz .i64 .i64 n n (by omega) (Int.le_refl _) (by rw [hb]; omega) (by omega)
  simp only [Int.toNat_natCast, hs, Value.cells] at hr
  exact hr

set_option maxRecDepth 100000 in
theorem toVar_any (a : ByteArray) (b : Int) (w : World) :
    Calls Tryz.prog 43 #[.agg #[.string a, .int .i64 b]] w fun e w' => e = .returned (.agg #[.string a, .int .i64 b]) ∧ Below w.heap.size w w' := by
  have hbox := Box.new w 66 #[.string a, .int .i64 b]
  have q0 := hbox.cell 0
  have q1 := hbox.cell 1
  go_enter Tryz.func43, Tryz.ntmps43
  go_wp2_with fail
  have hb2 := (Box.new (w.alloc (.cells #[.string a, .int .i64 b] 66)) 82 #[.string a, .int .i64 b]).alloc (.cells #[.string a, .int .i64 b] 82)
  rw [show (w.alloc (.cells #[.string a, .int .i64 b] 66)).heap.size = w.heap.size + 1 by simp] at hb2
  have k0 := hb2.cell 0
  have k1 := hb2.cell 1
  refine bodyPost_ret (v := .agg #[.string a, .int .i64 b]) (by simp [results, Tryz.results43, go_sem, k0, k1]; done) rfl ⟨rfl, ?_⟩
  exact (((Below.refl _ w).alloc (Nat.le_refl _) _).alloc (by simp) _).alloc (by simp; omega) _

set_option maxRecDepth 100000 in
set_option maxHeartbeats 1600000 in
theorem toVarS_any (lo : Nat) (A0 : Option Addr) (n cap : Nat) (vn : Nat → ByteArray) (vz : Nat → Int) (w : World) (hn : n ≤ 1048576) (hA : VrAt lo w A0 n vn vz) (hs : True) :
    Calls Tryz.prog 18 #[.slice A0 n cap] w fun e w' => (∃ g, e = .returned (.slice (some ⟨g, 0, none⟩) n n) ∧ VrAt w.heap.size w' (some ⟨g, 0, none⟩) n vn vz) ∧ Below w.heap.size w w' := by
  have hmk := mk_Var n hn
  have HA := Lib.hid hA; clear hA
  have HS := Lib.hid hs; clear hs
  go_enter Tryz.func18, Tryz.ntmps18
  go_wp2_with fail
  clear hmk
  obtain ⟨G, hG⟩ : ∃ G, G = w.heap.size := ⟨_, rfl⟩
  rw [← hG]
  have HG := Lib.hid hG; clear hG
  go_loopw [4] (fun i wr => ∃ (k : Nat) (cs : Array Value), (k ≤ n ∧ cs.size = n * 2 ∧ ∀ j, j < k → ∃ C : Nat → Value, VrR vn vz wr j C ∧ ∀ c, c < 2 → cs[j * 2 + c]? = some (C c)) ∧ Box wr G 82 cs ∧ Below w.heap.size w wr ∧ i = .int .i64 (k : Int)) (fun i _ => ((n : Int) - intOf i).toNat)
  case atStart =>
    refine ⟨0, madeCells #[.string ⟨#[]⟩, .int .i64 0] (n * 2), ⟨by omega, size_madeCells _ _, fun j h => by omega⟩, ?_, ?_, rfl⟩
    · rw [HG.out]; exact Box.new w _ _
    · exact (Below.refl _ w).alloc (Nat.le_refl _) _
  case round =>
    obtain ⟨k, cs, hk', hbx, hB, rfl⟩ := hrel
    obtain ⟨hk, hcs, hfill⟩ := hk'
    have Hfill := Lib.hid hfill; clear hfill
    have HB := Lib.hid hB; clear hB
    by_cases hk0 : k < n
    · have hAw : VrAt lo wr A0 n vn vz := HA.out.below HB.out (Nat.le_refl _)
      obtain ⟨b, off, rfl, hb, r0, r1⟩ := hAw.at_ hk0
      have Hb := Lib.hid hb; clear hb hAw
      go_wp2_with (go_at_call 43; refine (toVar_any _ _ _).mono ?_; rintro e w1 ⟨rfl, hb1⟩; replace hbx := hbx.below hb1 hbx.lt; have Hb1 := Lib.hid hb1; replace HB := Lib.hid (HB.out.trans (hb1.mono HB.out.size)); clear hb1; obtain ⟨k0, k1, f0, f1⟩ := two_at hbx (k * 2) (by omega))
      refine ⟨⟨k + 1, _, ⟨by omega, ?_, ?_⟩, (hbx.set _ _).set _ _, ?_, by simp⟩, by simp [intOf]; omega⟩
      · simp [hcs]
      · have hG2 : wr.heap.size ≤ wr.heap.size := Nat.le_refl _
        exact fill2 hcs hk0 Hfill.out _ _ (fun c => match c with | 0 => .string (vn k) | _ => .int .i64 (vz k)) ⟨rfl, rfl⟩ rfl rfl
      · have hG2 : w.heap.size ≤ G := by rw [HG.out]; exact Nat.le_refl _
        exact ((HB.out.setCell (p := ⟨G, k * 2, none⟩) hG2 _).setCell (p := ⟨G, k * 2 + 1, none⟩) hG2 _)
    · obtain rfl : k = n := by omega
      go_wp2_with fail
      go_ret
      exact ⟨⟨G, rfl, Arr.of_box (by rw [HG.out]; exact Nat.le_refl _) hbx Hfill.out⟩, HB.out⟩

set_option maxRecDepth 100000 in
set_option maxHeartbeats 1600000 in
theorem toExL_any (lo : Nat) (A0 : Option Addr) (n cap : Nat) (F : Nat → Nat → Int) (w : World) (hn : n ≤ 1048576) (hA0 : ExL lo w A0 n F) :
    Calls Tryz.prog 19 #[.slice A0 n cap] w fun e w' => (∃ g, e = .returned (.slice (some ⟨g, 0, none⟩) n n) ∧ ExL w.heap.size w' (some ⟨g, 0, none⟩) n F) ∧ Below w.heap.size w w' := by
  have hmk := mk_ex n hn
  have HA := Lib.hid hA0.1; clear hA0
  go_enter Tryz.func19, Tryz.ntmps19
  go_wp2_with fail
  clear hmk
  obtain ⟨G, hG⟩ : ∃ G, G = w.heap.size := ⟨_, rfl⟩
  rw [← hG]
  have HG := Lib.hid hG; clear hG
  go_loopw [4] (fun i wr => ∃ (k : Nat) (cs : Array Value), (k ≤ n ∧ cs.size = n * 4 ∧ ∀ j, j < k → ∀ c, c < 4 → cs[j * 4 + c]? = some (.int .i64 (F j c))) ∧ Box wr G 80 cs ∧ Below w.heap.size w wr ∧ i = .int .i64 (k : Int)) (fun i _ => ((n : Int) - intOf i).toNat)
  case atStart =>
    refine ⟨0, madeCells #[.int .i64 0, .int .i64 0, .int .i64 0, .int .i64 0] (n * 4), ⟨by omega, size_madeCells _ _, fun j h => by omega⟩, ?_, ?_, rfl⟩
    · rw [HG.out]; exact Box.new w _ _
    · exact (Below.refl _ w).alloc (Nat.le_refl _) _
  case round =>
    obtain ⟨k, cs, hk', hbx, hB, rfl⟩ := hrel
    obtain ⟨hk, hcs, hfill⟩ := hk'
    have Hfill := Lib.hid hfill; clear hfill
    have HB := Lib.hid hB; clear hB
    by_cases hk0 : k < n
    · have hAw : ExAt wr A0 n F := HA.out.below HB.out (Nat.le_refl _)
      obtain ⟨b, off, rfl, hb, r0, r1, r2, r3⟩ := hAw.at_ hk0
      have Hb := Lib.hid hb; clear hb hAw
      go_wp2_with (go_at_call 44; refine (toEx_any _ _ _ _ _).mono ?_; rintro e w1 ⟨rfl, hb1⟩; replace hbx := hbx.below hb1 hbx.lt; replace HB := Lib.hid (HB.out.trans (hb1.mono HB.out.size)); obtain ⟨k0, k1, k2, k3, f0, f1, f2, f3⟩ := four hbx (k * 4) (by omega))
      refine ⟨⟨k + 1, _, ⟨by omega, ?_, ?_⟩, (((hbx.set _ _).set _ _).set _ _).set _ _, ?_, by simp⟩, by simp [intOf]; omega⟩
      · simp [hcs]
      · exact fill4 k n cs F hcs hk0 Hfill.out
      · have hG2 : w.heap.size ≤ G := by rw [HG.out]; exact Nat.le_refl _
        exact (((HB.out.setCell (p := ⟨G, k * 4, none⟩) hG2 _).setCell (p := ⟨G, k * 4 + 1, none⟩) hG2 _).setCell (p := ⟨G, k * 4 + 2, none⟩) hG2 _).setCell (p := ⟨G, k * 4 + 3, none⟩) hG2 _
    · obtain rfl : k = n := by omega
      go_wp2_with fail
      go_ret
      refine ⟨⟨G, rfl, fun _ => ⟨G, 0, rfl, hbx.lt, fun j hj c hc => ?_⟩, fun _ b off he => ?_⟩, ?_⟩
      · rw [hbx.cell]; rw [Nat.zero_add]; exact Hfill.out j hj c hc
      · injection he with he; injection he with e1 _ _; exact ⟨by rw [← e1, HG.out]; exact Nat.le_refl _, by rw [← e1]; exact hbx.lt, fun _ i => by rw [← e1]; exact hbx.free i⟩
      · exact HB.out

end Go.Proofs.YtoaiejodbmkbjaaGreatDoor
