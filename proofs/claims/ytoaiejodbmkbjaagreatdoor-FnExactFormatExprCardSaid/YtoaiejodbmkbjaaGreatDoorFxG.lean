/-
  The model's text of an expression. (Written by gen_fx3.py.)
-/
import Derived.Test.YtoaiejodbmkbjaaGreatDoorFxF
namespace Go.Proofs.YtoaiejodbmkbjaaGreatDoor
open Go.RowKit Num

theorem held9x {p0 p1 p2 p3 p4 p5 p6 p7 p8 p9 : Prop} (h : p0 ∧ p1 ∧ p2 ∧ p3 ∧ p4 ∧ p5 ∧ p6 ∧ p7 ∧ p8 ∧ p9) : p9 := h.2.2.2.2.2.2.2.2.2

set_option maxRecDepth 100000 in
set_option maxHeartbeats 6400000 in
theorem expr_any (lo : Nat) (P : Prg) (Av Ax As Ap Ab : Option Addr) (cv cx cs cp cb : Nat) (hx : exsOk P.ex P.nv P.nx = true) (_hnx : P.nx ≤ 40) (k : Nat) : k < P.nx → (full P.ex P.vn k).size ≤ 6000 → ∀ w : World, PgAt lo w Av Ax As Ap Ab P →
    Calls Tryz.prog 17 #[.agg #[.slice Av P.nv cv, .slice Ax P.nx cx, .slice As P.ns cs, .slice Ap P.np cp, .slice Ab P.nb cb, .int .i64 P.fuel], .int .i64 (k : Nat)] w fun r w' => r = .returned (.string (full P.ex P.vn k)) ∧ Below w.heap.size w w' := by
  induction k using Nat.strongRecOn with
  | ind k ih =>
    intro hk hsz w h
    have hP := Box.new w 37 #[.slice Av P.nv cv, .slice Ax P.nx cx, .slice As P.ns cs, .slice Ap P.np cp, .slice Ab P.nb cb, .int .i64 P.fuel]
    have hB := (Below.refl w.heap.size w).alloc (Nat.le_refl _) (.cells #[.slice Av P.nv cv, .slice Ax P.nx cx, .slice As P.ns cs, .slice Ap P.np cp, .slice Ab P.nb cb, .int .i64 P.fuel] 37)
    have CI : Hid (∀ i W, Below w.heap.size w W → i < k → (full P.ex P.vn i).size ≤ 6000 → _) := Lib.hid fun i W hW hik hs => ih i hik (by omega) hs W (h.below hW (Nat.le_refl _))
    have CN : Hid (∀ (v : Nat) W, v < 10000 → _) := Lib.hid fun v W hv => num_any v hv W
    have CO : Hid (∀ W, _) := Lib.hid fun W => l4Ops_any W
    have hkx : (k : Int) < (P.nx : Int) := by omega
    obtain ⟨b, off, rfl, hb, r0, r1, r2, r3⟩ := h.x.1.at_ hk
    have HX := Lib.hid hx
    have hs1 : (w.alloc (.cells #[.slice Av P.nv cv, .slice (some ⟨b, off, none⟩) P.nx cx, .slice As P.ns cs, .slice Ap P.np cp, .slice Ab P.nb cb, .int .i64 P.fuel] 37)).heap.size = w.heap.size + 1 := by simp
    clear ih
    by_cases o1 : P.ex k 0 = 1
    · obtain ⟨hf, hv0, hv1⟩ := full_const (vn := P.vn) hx hk o1
      obtain ⟨v, hv⟩ : ∃ v : Nat, P.ex k 3 = (v : Int) := ⟨(P.ex k 3).toNat, by omega⟩
      rw [hv] at hf r3
      rw [o1] at r0
      have hf2 : full P.ex P.vn k = ⟨(decL v).toArray⟩ := hf
      have hv10 : v < 10000 := by omega
      have HF := Lib.hid hf2
      obtain ⟨q0, q1, q2, q3, q4, q5, qf⟩ := hP.six
      have hal := (Below.refl (w.alloc (.cells #[.slice Av P.nv cv, .slice (some ⟨b, off, none⟩) P.nx cx, .slice As P.ns cs, .slice Ap P.np cp, .slice Ab P.nb cb, .int .i64 P.fuel] 37)).heap.size (w.alloc (.cells #[.slice Av P.nv cv, .slice (some ⟨b, off, none⟩) P.nx cx, .slice As P.ns cs, .slice Ap P.np cp, .slice Ab P.nb cb, .int .i64 P.fuel] 37))).alloc (Nat.le_refl _) (.cells #[.int .i64 1, .int .i64 (P.ex k 1), .int .i64 (P.ex k 2), .int .i64 (v : Nat)] 80)
      clear hf hf2 hv hx hsz h o1
      go_enter Tryz.func17, Tryz.ntmps17
      go_wp2_with (go_at_call 40; refine (CN.out v _ hv10).mono ?_; rintro e5 w5 ⟨rfl, hb5⟩)
      go_ret
      exact ⟨by rw [HF.out]; rfl, (hB.trans (hal.mono hB.size)).trans (hb5.mono (hB.trans (hal.mono hB.size)).size)⟩
    · by_cases o2 : P.ex k 0 = 2
      · obtain ⟨hf, hv0, hv1⟩ := full_var (vn := P.vn) hx hk o2
        obtain ⟨v, hv⟩ : ∃ v : Nat, P.ex k 3 = (v : Int) := ⟨(P.ex k 3).toNat, by omega⟩
        rw [hv] at hf r3
        rw [o2] at r0
        have hvm : v < P.nv := by omega
        have hvi : (v : Int) < (P.nv : Int) := by omega
        obtain ⟨bv, offv, rfl, hbv, s0, s1⟩ := h.v.at_ hvm
        have hf2 : full P.ex P.vn k = P.vn v := hf
        have HF := Lib.hid hf2
        have hal := (Below.refl (w.alloc (.cells #[.slice (some ⟨bv, offv, none⟩) P.nv cv, .slice (some ⟨b, off, none⟩) P.nx cx, .slice As P.ns cs, .slice Ap P.np cp, .slice Ab P.nb cb, .int .i64 P.fuel] 37)).heap.size (w.alloc (.cells #[.slice (some ⟨bv, offv, none⟩) P.nv cv, .slice (some ⟨b, off, none⟩) P.nx cx, .slice As P.ns cs, .slice Ap P.np cp, .slice Ab P.nb cb, .int .i64 P.fuel] 37))).alloc (Nat.le_refl _) (.cells #[.int .i64 2, .int .i64 (P.ex k 1), .int .i64 (P.ex k 2), .int .i64 (v : Nat)] 80)
        obtain ⟨q0, q1, q2, q3, q4, q5, qf⟩ := (hP.below hal hP.lt).six
        have t0 := ((hB.trans (hal.mono hB.size)).cell hbv).trans s0
        obtain ⟨z0, z1, z2, z3, z4, z5, zf⟩ := hP.six
        clear hf hf2 hv hx hsz h o1 o2
        go_enter Tryz.func17, Tryz.ntmps17
        go_wp2_with fail
        go_ret
        exact ⟨by rw [HF.out]; rfl, hB.trans (hal.mono hB.size)⟩
      · have ho := ops_below hx hk o1 o2
        obtain ⟨i, hi⟩ : ∃ i : Nat, P.ex k 1 = (i : Int) := ⟨(P.ex k 1).toNat, by omega⟩
        have hik : i < k := by omega
        by_cases o10 : P.ex k 0 = 10
        · have hf := full_not (vn := P.vn) hx hk o10
          rw [hi] at hf r1
          rw [o10] at r0
          have hf2 : full P.ex P.vn k = ((⟨#[40, 110, 111, 116, 32]⟩ : ByteArray) ++ full P.ex P.vn i) ++ ⟨#[41]⟩ := hf
          have hszi : (full P.ex P.vn i).size ≤ 6000 := by rw [hf2, size_not] at hsz; omega
          have z1 : 5 + (full P.ex P.vn i).size ≤ 9223372036854775807 := by omega
          have z2 : 5 + (full P.ex P.vn i).size + 1 ≤ 9223372036854775807 := by omega
          have HF := Lib.hid hf2
          have hal := (Below.refl (w.alloc (.cells #[.slice Av P.nv cv, .slice (some ⟨b, off, none⟩) P.nx cx, .slice As P.ns cs, .slice Ap P.np cp, .slice Ab P.nb cb, .int .i64 P.fuel] 37)).heap.size (w.alloc (.cells #[.slice Av P.nv cv, .slice (some ⟨b, off, none⟩) P.nx cx, .slice As P.ns cs, .slice Ap P.np cp, .slice Ab P.nb cb, .int .i64 P.fuel] 37))).alloc (Nat.le_refl _) (.cells #[.int .i64 10, .int .i64 (i : Nat), .int .i64 (P.ex k 2), .int .i64 (P.ex k 3)] 80)
          have hB2 := hB.trans (hal.mono hB.size)
          obtain ⟨q0, q1, q2, q3, q4, q5, qf⟩ := (hP.below hal hP.lt).six
          obtain ⟨y0, y1, y2, y3, y4, y5, yf⟩ := hP.six
          clear hf hf2 hi hx hsz h o1 o2 o10 ho
          go_enter Tryz.func17, Tryz.ntmps17
          go_wp2_with (go_at_call 17; refine (CI.out i _ hB2 hik hszi).mono ?_; rintro e5 w5 ⟨rfl, hb5⟩)
          go_ret
          exact ⟨by rw [HF.out]; rfl, hB2.trans (hb5.mono hB2.size)⟩
        · have hb3 := ho.2.1 o10
          obtain ⟨j, hj⟩ : ∃ j : Nat, P.ex k 2 = (j : Int) := ⟨(P.ex k 2).toNat, by omega⟩
          obtain ⟨o, hoo⟩ : ∃ o : Nat, P.ex k 0 = ((o + 3 : Nat) : Int) := ⟨(P.ex k 0).toNat - 3, by omega⟩
          have hf := full_op (vn := P.vn) hx hk o1 o2 o10
          have hjk : j < k := by omega
          have ho7 : o < 7 := by omega
          have ho8 : ¬ 7 ≤ (o : Int) := by omega
          have how : opW (P.ex k 0) = opW (3 + (o : Int)) := by rw [hoo]; congr 1; omega
          have hlw := opW_size (3 + (o : Int))
          rw [hi, hj, how] at hf
          rw [hi] at r1
          rw [hj] at r2
          have hf2 : full P.ex P.vn k = ((((((⟨#[40]⟩ : ByteArray) ++ full P.ex P.vn i) ++ ⟨#[32]⟩) ++ opW (3 + (o : Int))) ++ ⟨#[32]⟩) ++ full P.ex P.vn j) ++ ⟨#[41]⟩ := hf
          have hszs : (full P.ex P.vn i).size + (full P.ex P.vn j).size + 4 ≤ 6000 := by rw [hf2, size_op] at hsz; omega
          have hszi : (full P.ex P.vn i).size ≤ 6000 := by omega
          have hszj : (full P.ex P.vn j).size ≤ 6000 := by omega
          have z1 : 1 + (full P.ex P.vn i).size ≤ 9223372036854775807 := by omega
          have z2 : 1 + (full P.ex P.vn i).size + 1 ≤ 9223372036854775807 := by omega
          have z3 : 1 + (full P.ex P.vn i).size + 1 + (opW (3 + (o : Int))).size ≤ 9223372036854775807 := by omega
          have z4 : 1 + (full P.ex P.vn i).size + 1 + (opW (3 + (o : Int))).size + 1 ≤ 9223372036854775807 := by omega
          have z5 : 1 + (full P.ex P.vn i).size + 1 + (opW (3 + (o : Int))).size + 1 + (full P.ex P.vn j).size ≤ 9223372036854775807 := by omega
          have z6 : 1 + (full P.ex P.vn i).size + 1 + (opW (3 + (o : Int))).size + 1 + (full P.ex P.vn j).size + 1 ≤ 9223372036854775807 := by omega
          have HF := Lib.hid hf2
          obtain ⟨p, hp⟩ : ∃ p : Nat, p = o + 3 := ⟨_, rfl⟩
          rw [hoo, ← hp] at r0
          have e1 : ((p : Int) == 1) = false := by simp; omega
          have e2 : ((p : Int) == 2) = false := by simp; omega
          have e3 : ((p : Int) == 10) = false := by simp; omega
          have wq : IntKind.i64.wrap ((p : Int) - 3) = (o : Int) := by rw [IntWalk.i64_in _ (by omega)]; omega
          have hal := (Below.refl (w.alloc (.cells #[.slice Av P.nv cv, .slice (some ⟨b, off, none⟩) P.nx cx, .slice As P.ns cs, .slice Ap P.np cp, .slice Ab P.nb cb, .int .i64 P.fuel] 37)).heap.size (w.alloc (.cells #[.slice Av P.nv cv, .slice (some ⟨b, off, none⟩) P.nx cx, .slice As P.ns cs, .slice Ap P.np cp, .slice Ab P.nb cb, .int .i64 P.fuel] 37))).alloc (Nat.le_refl _) (.cells #[.int .i64 (p : Nat), .int .i64 (i : Nat), .int .i64 (j : Nat), .int .i64 (P.ex k 3)] 80)
          have hT := Box.new (w.alloc (.cells #[.slice Av P.nv cv, .slice (some ⟨b, off, none⟩) P.nx cx, .slice As P.ns cs, .slice Ap P.np cp, .slice Ab P.nb cb, .int .i64 P.fuel] 37)) 80 #[.int .i64 (p : Nat), .int .i64 (i : Nat), .int .i64 (j : Nat), .int .i64 (P.ex k 3)]
          rw [hs1] at hT
          have hB2 := hB.trans (hal.mono hB.size)
          have hP2 := hP.below hal hP.lt
          obtain ⟨q0, q1, q2, q3, q4, q5, qf⟩ := hP2.six
          obtain ⟨y0, y1, y2, y3, y4, y5, yf⟩ := hP.six
          have p0 := hT.cell 0
          have p1 := hT.cell 1
          have p2 := hT.cell 2
          have hl0 := hP2.lt
          have hl1 := hT.lt
          obtain ⟨w2, hw2⟩ : ∃ w2, w2 = (w.alloc (.cells #[.slice Av P.nv cv, .slice (some ⟨b, off, none⟩) P.nx cx, .slice As P.ns cs, .slice Ap P.np cp, .slice Ab P.nb cb, .int .i64 P.fuel] 37)).alloc (.cells #[.int .i64 (p : Nat), .int .i64 (i : Nat), .int .i64 (j : Nat), .int .i64 (P.ex k 3)] 80) := ⟨_, rfl⟩
          have HW := Lib.hid hw2
          have HB : Hid (Below w.heap.size w w2) := Lib.hid (by rw [hw2]; exact hB2)
          clear hf hf2 hi hj hoo how hx hsz hszs h o1 o2 o10 ho hlw hp hb3 hal hB2 hw2
          go_enter Tryz.func17, Tryz.ntmps17
          go_upto_region 9 with fail
          rw [← HW.out] at q0 q1 q2 q3 q4 q5 p0 p1 p2 hl0 hl1 ⊢
          clear y0 y1 y2 y3 y4 y5 yf qf HW hP hP2 hT hB hs1
          refine wp_region_held_drew (S := (fun w' => w'.cell? ⟨w.heap.size, 0, none⟩ = some (.slice Av P.nv cv) ∧ w'.cell? ⟨w.heap.size, 1, none⟩ = some (.slice (some ⟨b, off, none⟩) P.nx cx) ∧ w'.cell? ⟨w.heap.size, 2, none⟩ = some (.slice As P.ns cs) ∧ w'.cell? ⟨w.heap.size, 3, none⟩ = some (.slice Ap P.np cp) ∧ w'.cell? ⟨w.heap.size, 4, none⟩ = some (.slice Ab P.nb cb) ∧ w'.cell? ⟨w.heap.size, 5, none⟩ = some (.int .i64 P.fuel) ∧ w'.cell? ⟨w.heap.size + 1, 0, none⟩ = some (.int .i64 (p : Nat)) ∧ w'.cell? ⟨w.heap.size + 1, 1, none⟩ = some (.int .i64 (i : Nat)) ∧ w'.cell? ⟨w.heap.size + 1, 2, none⟩ = some (.int .i64 (j : Nat)) ∧ Below w2.heap.size w2 w')) (by kernel_rfl) ?_ (fun hHeld => ?_)
          · (try dsimp only); (suffices hBB : Below w2.heap.size w2 _ from ⟨(hBB.cell hl0).trans q0, (hBB.cell hl0).trans q1, (hBB.cell hl0).trans q2, (hBB.cell hl0).trans q3, (hBB.cell hl0).trans q4, (hBB.cell hl0).trans q5, (hBB.cell hl1).trans p0, (hBB.cell hl1).trans p1, (hBB.cell hl1).trans p2, hBB⟩; first | exact Below.drew (Below.refl _ _) | exact held9x (by assumption) | (refine stepB (held9x (by assumption)) ?_; assumption))
          refine wpAnyH_take (i := 0) (v := .agg #[.slice Av P.nv cv, .slice (some ⟨b, off, none⟩) P.nx cx, .slice As P.ns cs, .slice Ap P.np cp, .slice Ab P.nb cb, .int .i64 P.fuel]) rfl (by kernel_rfl) (by kernel_rfl) (by kernel_rfl) (fun _ _ _ h => h) (Or.inl ⟨by rfl, ?_⟩) (by assumption) ?_
          · intro w' hSw; (try dsimp only at hSw); go_simp
          (try simp only [Act.put, List.getElem_toArray, List.getElem_cons_zero, List.setIfInBounds_toArray, List.set_cons_zero, List.set_cons_succ])
          refine wpAnyH_take (i := 1) (v := .pointer (some ⟨w.heap.size + 1, 1, none⟩)) rfl (by kernel_rfl) (by kernel_rfl) (by kernel_rfl) (fun _ _ _ h => h) (Or.inl ⟨by rfl, ?_⟩) (by assumption) ?_
          · intro w' hSw; (try dsimp only at hSw); go_simp
          (try simp only [Act.put, List.getElem_toArray, List.getElem_cons_zero, List.getElem_cons_succ, List.setIfInBounds_toArray, List.set_cons_zero, List.set_cons_succ])
          refine wpAnyH_take (i := 2) (v := .int .i64 (i : Nat)) rfl (by kernel_rfl) (by kernel_rfl) (by kernel_rfl) (fun _ _ _ h => h) (Or.inl ⟨by rfl, ?_⟩) (by assumption) ?_
          · intro w' hSw; (try dsimp only at hSw); go_simp
          (try simp only [Act.put, List.getElem_toArray, List.getElem_cons_zero, List.getElem_cons_succ, List.setIfInBounds_toArray, List.set_cons_zero, List.set_cons_succ])
          refine wpAnyH_take (i := 7) (v := .pointer (some ⟨w.heap.size + 1, 0, none⟩)) rfl (by kernel_rfl) (by kernel_rfl) (by kernel_rfl) (fun _ _ _ h => h) (Or.inl ⟨by rfl, ?_⟩) (by assumption) ?_
          · intro w' hSw; (try dsimp only at hSw); go_simp
          (try simp only [Act.put, List.getElem_toArray, List.getElem_cons_zero, List.getElem_cons_succ, List.setIfInBounds_toArray, List.set_cons_zero, List.set_cons_succ])
          refine wpAnyH_take (i := 8) (v := .int .i64 (p : Nat)) rfl (by kernel_rfl) (by kernel_rfl) (by kernel_rfl) (fun _ _ _ h => h) (Or.inl ⟨by rfl, ?_⟩) (by assumption) ?_
          · intro w' hSw; (try dsimp only at hSw); go_simp
          (try simp only [Act.put, List.getElem_toArray, List.getElem_cons_zero, List.getElem_cons_succ, List.setIfInBounds_toArray, List.set_cons_zero, List.set_cons_succ])
          refine wpAnyH_take (i := 9) (v := .int .i64 (o : Nat)) rfl (by kernel_rfl) (by kernel_rfl) (by kernel_rfl) (fun _ _ _ h => h) (Or.inl ⟨by rfl, ?_⟩) (by assumption) ?_
          · intro w' hSw; (try dsimp only at hSw); go_simp
          (try simp only [Act.put, List.getElem_toArray, List.getElem_cons_zero, List.getElem_cons_succ, List.setIfInBounds_toArray, List.set_cons_zero, List.set_cons_succ])
          refine wpAnyH_take (i := 14) (v := .agg #[.slice Av P.nv cv, .slice (some ⟨b, off, none⟩) P.nx cx, .slice As P.ns cs, .slice Ap P.np cp, .slice Ab P.nb cb, .int .i64 P.fuel]) rfl (by kernel_rfl) (by kernel_rfl) (by kernel_rfl) (fun _ _ _ h => h) (Or.inl ⟨by rfl, ?_⟩) (by assumption) ?_
          · intro w' hSw; (try dsimp only at hSw); go_simp
          (try simp only [Act.put, List.getElem_toArray, List.getElem_cons_zero, List.getElem_cons_succ, List.setIfInBounds_toArray, List.set_cons_zero, List.set_cons_succ])
          refine wpAnyH_take (i := 15) (v := .pointer (some ⟨w.heap.size + 1, 2, none⟩)) rfl (by kernel_rfl) (by kernel_rfl) (by kernel_rfl) (fun _ _ _ h => h) (Or.inl ⟨by rfl, ?_⟩) (by assumption) ?_
          · intro w' hSw; (try dsimp only at hSw); go_simp
          (try simp only [Act.put, List.getElem_toArray, List.getElem_cons_zero, List.getElem_cons_succ, List.setIfInBounds_toArray, List.set_cons_zero, List.set_cons_succ])
          refine wpAnyH_take (i := 16) (v := .int .i64 (j : Nat)) rfl (by kernel_rfl) (by kernel_rfl) (by kernel_rfl) (fun _ _ _ h => h) (Or.inl ⟨by rfl, ?_⟩) (by assumption) ?_
          · intro w' hSw; (try dsimp only at hSw); go_simp
          (try simp only [Act.put, List.getElem_toArray, List.getElem_cons_zero, List.getElem_cons_succ, List.setIfInBounds_toArray, List.set_cons_zero, List.set_cons_succ])
          refine wpAnyH_ready (rs := [3]) (by kernel_rfl) (by simp) ?_
          refine AllReadyH.cons rfl (fun K hK => ?_) AllReadyH.nil
          go_simp
          go_wp2_with (go_at_call 17; refine (CI.out _ _ (HB.out.trans (Below.mono (held9x (by assumption)) HB.out.size)) hik hszi).mono ?_; rintro e3 w3 ⟨rfl, hb3⟩)
          refine hK.out _ _ ?_ (fun hHeld => ?_)
          · (try dsimp only); (suffices hBB : Below w2.heap.size w2 _ from ⟨(hBB.cell hl0).trans q0, (hBB.cell hl0).trans q1, (hBB.cell hl0).trans q2, (hBB.cell hl0).trans q3, (hBB.cell hl0).trans q4, (hBB.cell hl0).trans q5, (hBB.cell hl1).trans p0, (hBB.cell hl1).trans p1, (hBB.cell hl1).trans p2, hBB⟩; first | exact Below.drew (Below.refl _ _) | exact held9x (by assumption) | (refine stepB (held9x (by assumption)) ?_; assumption))
          clear hK K
          (try simp only [Act.put, List.getElem_toArray, List.getElem_cons_zero, List.getElem_cons_succ, List.setIfInBounds_toArray, List.set_cons_zero, List.set_cons_succ])
          refine wpAnyH_take (i := 4) (v := .string ((⟨#[40]⟩ : ByteArray) ++ full P.ex P.vn i)) rfl (by kernel_rfl) (by kernel_rfl) (by kernel_rfl) (fun _ _ _ h => h) (Or.inl ⟨by rfl, ?_⟩) (by assumption) ?_
          · intro w' hSw; (try dsimp only at hSw); go_simp
          (try simp only [Act.put, List.getElem_toArray, List.getElem_cons_zero, List.getElem_cons_succ, List.setIfInBounds_toArray, List.set_cons_zero, List.set_cons_succ])
          refine wpAnyH_take (i := 5) (v := .string (((⟨#[40]⟩ : ByteArray) ++ full P.ex P.vn i) ++ ⟨#[32]⟩)) rfl (by kernel_rfl) (by kernel_rfl) (by kernel_rfl) (fun _ _ _ h => h) (Or.inl ⟨by rfl, ?_⟩) (by assumption) ?_
          · intro w' hSw; (try dsimp only at hSw); go_simp
          (try simp only [Act.put, List.getElem_toArray, List.getElem_cons_zero, List.getElem_cons_succ, List.setIfInBounds_toArray, List.set_cons_zero, List.set_cons_succ])
          refine wpAnyH_ready (rs := [6]) (by kernel_rfl) (by simp) ?_
          refine AllReadyH.cons rfl (fun K hK => ?_) AllReadyH.nil
          go_simp
          go_wp2_with (go_at_call 41; refine (CO.out _).mono ?_; rintro e4 w4 ⟨⟨A0, rfl, hs⟩, hb4⟩; obtain ⟨gb, off2, rfl, hgb, so⟩ := hs.at_ ho7)
          refine hK.out _ _ ?_ (fun hHeld => ?_)
          · (try dsimp only); (suffices hBB : Below w2.heap.size w2 _ from ⟨(hBB.cell hl0).trans q0, (hBB.cell hl0).trans q1, (hBB.cell hl0).trans q2, (hBB.cell hl0).trans q3, (hBB.cell hl0).trans q4, (hBB.cell hl0).trans q5, (hBB.cell hl1).trans p0, (hBB.cell hl1).trans p1, (hBB.cell hl1).trans p2, hBB⟩; first | exact Below.drew (Below.refl _ _) | exact held9x (by assumption) | (refine stepB (held9x (by assumption)) ?_; assumption))
          clear hK K
          (try simp only [Act.put, List.getElem_toArray, List.getElem_cons_zero, List.getElem_cons_succ, List.setIfInBounds_toArray, List.set_cons_zero, List.set_cons_succ])
          refine wpAnyH_take (i := 10) (v := .pointer (some ⟨gb, off2 + o, none⟩)) rfl (by kernel_rfl) (by kernel_rfl) (by kernel_rfl) (fun _ _ _ h => h) (Or.inl ⟨by rfl, ?_⟩) (by assumption) ?_
          · intro w' hSw; (try dsimp only at hSw); go_simp
          (try simp only [Act.put, List.getElem_toArray, List.getElem_cons_zero, List.getElem_cons_succ, List.setIfInBounds_toArray, List.set_cons_zero, List.set_cons_succ])
          refine wpAnyH_ready (rs := [11, 17]) (by kernel_rfl) (by simp) ?_
          refine AllReadyH.cons rfl (fun K hK => ?_) (AllReadyH.cons rfl (fun K hK => ?_) AllReadyH.nil)
          · skip
            go_simp
            (try go_wp2_with fail)
            refine hK.out _ _ ?_ (fun hHeld => ?_)
            · (try dsimp only); (suffices hBB : Below w2.heap.size w2 _ from ⟨(hBB.cell hl0).trans q0, (hBB.cell hl0).trans q1, (hBB.cell hl0).trans q2, (hBB.cell hl0).trans q3, (hBB.cell hl0).trans q4, (hBB.cell hl0).trans q5, (hBB.cell hl1).trans p0, (hBB.cell hl1).trans p1, (hBB.cell hl1).trans p2, hBB⟩; first | exact Below.drew (Below.refl _ _) | exact held9x (by assumption) | (refine stepB (held9x (by assumption)) ?_; assumption))
            clear hK K
            (try simp only [Act.put, List.getElem_toArray, List.getElem_cons_zero, List.getElem_cons_succ, List.setIfInBounds_toArray, List.set_cons_zero, List.set_cons_succ])
            refine wpAnyH_take (i := 12) (v := .string ((((⟨#[40]⟩ : ByteArray) ++ full P.ex P.vn i) ++ ⟨#[32]⟩) ++ opW (3 + (o : Int)))) rfl (by kernel_rfl) (by kernel_rfl) (by kernel_rfl) (fun _ _ _ h => h) (Or.inl ⟨by rfl, ?_⟩) (by assumption) ?_
            · intro w' hSw; (try dsimp only at hSw); go_simp
            (try simp only [Act.put, List.getElem_toArray, List.getElem_cons_zero, List.getElem_cons_succ, List.setIfInBounds_toArray, List.set_cons_zero, List.set_cons_succ])
            refine wpAnyH_take (i := 13) (v := .string (((((⟨#[40]⟩ : ByteArray) ++ full P.ex P.vn i) ++ ⟨#[32]⟩) ++ opW (3 + (o : Int))) ++ ⟨#[32]⟩)) rfl (by kernel_rfl) (by kernel_rfl) (by kernel_rfl) (fun _ _ _ h => h) (Or.inl ⟨by rfl, ?_⟩) (by assumption) ?_
            · intro w' hSw; (try dsimp only at hSw); go_simp
            (try simp only [Act.put, List.getElem_toArray, List.getElem_cons_zero, List.getElem_cons_succ, List.setIfInBounds_toArray, List.set_cons_zero, List.set_cons_succ])
            refine wpAnyH_ready (rs := [17]) (by kernel_rfl) (by simp) ?_
            refine AllReadyH.cons rfl (fun K hK => ?_) AllReadyH.nil
            go_simp
            go_wp2_with (go_at_call 17; refine (CI.out _ _ (HB.out.trans (Below.mono (held9x (by assumption)) HB.out.size)) hjk hszj).mono ?_; rintro e6 w6 ⟨rfl, hb6⟩; have so6 := (hb6.cell hgb).trans so)
            refine hK.out _ _ ?_ (fun hHeld => ?_)
            · (try dsimp only); (suffices hBB : Below w2.heap.size w2 _ from ⟨(hBB.cell hl0).trans q0, (hBB.cell hl0).trans q1, (hBB.cell hl0).trans q2, (hBB.cell hl0).trans q3, (hBB.cell hl0).trans q4, (hBB.cell hl0).trans q5, (hBB.cell hl1).trans p0, (hBB.cell hl1).trans p1, (hBB.cell hl1).trans p2, hBB⟩; first | exact Below.drew (Below.refl _ _) | exact held9x (by assumption) | (refine stepB (held9x (by assumption)) ?_; assumption))
            clear hK K
            (try simp only [Act.put, List.getElem_toArray, List.getElem_cons_zero, List.getElem_cons_succ, List.setIfInBounds_toArray, List.set_cons_zero, List.set_cons_succ])
            refine wpAnyH_take (i := 18) (v := .string ((((((⟨#[40]⟩ : ByteArray) ++ full P.ex P.vn i) ++ ⟨#[32]⟩) ++ opW (3 + (o : Int))) ++ ⟨#[32]⟩) ++ full P.ex P.vn j)) rfl (by kernel_rfl) (by kernel_rfl) (by kernel_rfl) (fun _ _ _ h => h) (Or.inl ⟨by rfl, ?_⟩) (by assumption) ?_
            · intro w' hSw; (try dsimp only at hSw); go_simp
            (try simp only [Act.put, List.getElem_toArray, List.getElem_cons_zero, List.getElem_cons_succ, List.setIfInBounds_toArray, List.set_cons_zero, List.set_cons_succ])
            refine wpAnyH_take (i := 19) (v := .string (((((((⟨#[40]⟩ : ByteArray) ++ full P.ex P.vn i) ++ ⟨#[32]⟩) ++ opW (3 + (o : Int))) ++ ⟨#[32]⟩) ++ full P.ex P.vn j) ++ ⟨#[41]⟩)) rfl (by kernel_rfl) (by kernel_rfl) (by kernel_rfl) (fun _ _ _ h => h) (Or.inl ⟨by rfl, ?_⟩) (by assumption) ?_
            · intro w' hSw; (try dsimp only at hSw); go_simp
            (try simp only [Act.put, List.getElem_toArray, List.getElem_cons_zero, List.getElem_cons_succ, List.setIfInBounds_toArray, List.set_cons_zero, List.set_cons_succ])
            refine wpAnyH_ready (rs := [20]) (by kernel_rfl) (by simp) ?_
            refine AllReadyH.cons rfl (fun K hK => ?_) AllReadyH.nil
            go_simp
            (try go_wp2_with fail)
            refine hK.out _ _ ?_ (fun hHeld => ?_)
            · (try dsimp only); (suffices hBB : Below w2.heap.size w2 _ from ⟨(hBB.cell hl0).trans q0, (hBB.cell hl0).trans q1, (hBB.cell hl0).trans q2, (hBB.cell hl0).trans q3, (hBB.cell hl0).trans q4, (hBB.cell hl0).trans q5, (hBB.cell hl1).trans p0, (hBB.cell hl1).trans p1, (hBB.cell hl1).trans p2, hBB⟩; first | exact Below.drew (Below.refl _ _) | exact held9x (by assumption) | (refine stepB (held9x (by assumption)) ?_; assumption))
            clear hK K
            (try simp only [Act.put, List.getElem_toArray, List.getElem_cons_zero, List.getElem_cons_succ, List.setIfInBounds_toArray, List.set_cons_zero, List.set_cons_succ])
            refine wpAnyH_done (by kernel_rfl) ?_ _
            go_wp2_with fail
            go_ret
            exact ⟨by rw [HF.out]; rfl, HB.out.trans (Below.mono (held9x (by assumption)) HB.out.size)⟩
          · skip
            go_simp
            go_wp2_with (go_at_call 17; refine (CI.out _ _ (HB.out.trans (Below.mono (held9x (by assumption)) HB.out.size)) hjk hszj).mono ?_; rintro e6 w6 ⟨rfl, hb6⟩; have so6 := (hb6.cell hgb).trans so)
            refine hK.out _ _ ?_ (fun hHeld => ?_)
            · (try dsimp only); (suffices hBB : Below w2.heap.size w2 _ from ⟨(hBB.cell hl0).trans q0, (hBB.cell hl0).trans q1, (hBB.cell hl0).trans q2, (hBB.cell hl0).trans q3, (hBB.cell hl0).trans q4, (hBB.cell hl0).trans q5, (hBB.cell hl1).trans p0, (hBB.cell hl1).trans p1, (hBB.cell hl1).trans p2, hBB⟩; first | exact Below.drew (Below.refl _ _) | exact held9x (by assumption) | (refine stepB (held9x (by assumption)) ?_; assumption))
            clear hK K
            (try simp only [Act.put, List.getElem_toArray, List.getElem_cons_zero, List.getElem_cons_succ, List.setIfInBounds_toArray, List.set_cons_zero, List.set_cons_succ])
            refine wpAnyH_ready (rs := [11]) (by kernel_rfl) (by simp) ?_
            refine AllReadyH.cons rfl (fun K hK => ?_) AllReadyH.nil
            go_simp
            (try go_wp2_with fail)
            refine hK.out _ _ ?_ (fun hHeld => ?_)
            · (try dsimp only); (suffices hBB : Below w2.heap.size w2 _ from ⟨(hBB.cell hl0).trans q0, (hBB.cell hl0).trans q1, (hBB.cell hl0).trans q2, (hBB.cell hl0).trans q3, (hBB.cell hl0).trans q4, (hBB.cell hl0).trans q5, (hBB.cell hl1).trans p0, (hBB.cell hl1).trans p1, (hBB.cell hl1).trans p2, hBB⟩; first | exact Below.drew (Below.refl _ _) | exact held9x (by assumption) | (refine stepB (held9x (by assumption)) ?_; assumption))
            clear hK K
            (try simp only [Act.put, List.getElem_toArray, List.getElem_cons_zero, List.getElem_cons_succ, List.setIfInBounds_toArray, List.set_cons_zero, List.set_cons_succ])
            refine wpAnyH_take (i := 12) (v := .string ((((⟨#[40]⟩ : ByteArray) ++ full P.ex P.vn i) ++ ⟨#[32]⟩) ++ opW (3 + (o : Int)))) rfl (by kernel_rfl) (by kernel_rfl) (by kernel_rfl) (fun _ _ _ h => h) (Or.inl ⟨by rfl, ?_⟩) (by assumption) ?_
            · intro w' hSw; (try dsimp only at hSw); go_simp
            (try simp only [Act.put, List.getElem_toArray, List.getElem_cons_zero, List.getElem_cons_succ, List.setIfInBounds_toArray, List.set_cons_zero, List.set_cons_succ])
            refine wpAnyH_take (i := 13) (v := .string (((((⟨#[40]⟩ : ByteArray) ++ full P.ex P.vn i) ++ ⟨#[32]⟩) ++ opW (3 + (o : Int))) ++ ⟨#[32]⟩)) rfl (by kernel_rfl) (by kernel_rfl) (by kernel_rfl) (fun _ _ _ h => h) (Or.inl ⟨by rfl, ?_⟩) (by assumption) ?_
            · intro w' hSw; (try dsimp only at hSw); go_simp
            (try simp only [Act.put, List.getElem_toArray, List.getElem_cons_zero, List.getElem_cons_succ, List.setIfInBounds_toArray, List.set_cons_zero, List.set_cons_succ])
            refine wpAnyH_take (i := 18) (v := .string ((((((⟨#[40]⟩ : ByteArray) ++ full P.ex P.vn i) ++ ⟨#[32]⟩) ++ opW (3 + (o : Int))) ++ ⟨#[32]⟩) ++ full P.ex P.vn j)) rfl (by kernel_rfl) (by kernel_rfl) (by kernel_rfl) (fun _ _ _ h => h) (Or.inl ⟨by rfl, ?_⟩) (by assumption) ?_
            · intro w' hSw; (try dsimp only at hSw); go_simp
            (try simp only [Act.put, List.getElem_toArray, List.getElem_cons_zero, List.getElem_cons_succ, List.setIfInBounds_toArray, List.set_cons_zero, List.set_cons_succ])
            refine wpAnyH_take (i := 19) (v := .string (((((((⟨#[40]⟩ : ByteArray) ++ full P.ex P.vn i) ++ ⟨#[32]⟩) ++ opW (3 + (o : Int))) ++ ⟨#[32]⟩) ++ full P.ex P.vn j) ++ ⟨#[41]⟩)) rfl (by kernel_rfl) (by kernel_rfl) (by kernel_rfl) (fun _ _ _ h => h) (Or.inl ⟨by rfl, ?_⟩) (by assumption) ?_
            · intro w' hSw; (try dsimp only at hSw); go_simp
            (try simp only [Act.put, List.getElem_toArray, List.getElem_cons_zero, List.getElem_cons_succ, List.setIfInBounds_toArray, List.set_cons_zero, List.set_cons_succ])
            refine wpAnyH_ready (rs := [20]) (by kernel_rfl) (by simp) ?_
            refine AllReadyH.cons rfl (fun K hK => ?_) AllReadyH.nil
            go_simp
            (try go_wp2_with fail)
            refine hK.out _ _ ?_ (fun hHeld => ?_)
            · (try dsimp only); (suffices hBB : Below w2.heap.size w2 _ from ⟨(hBB.cell hl0).trans q0, (hBB.cell hl0).trans q1, (hBB.cell hl0).trans q2, (hBB.cell hl0).trans q3, (hBB.cell hl0).trans q4, (hBB.cell hl0).trans q5, (hBB.cell hl1).trans p0, (hBB.cell hl1).trans p1, (hBB.cell hl1).trans p2, hBB⟩; first | exact Below.drew (Below.refl _ _) | exact held9x (by assumption) | (refine stepB (held9x (by assumption)) ?_; assumption))
            clear hK K
            (try simp only [Act.put, List.getElem_toArray, List.getElem_cons_zero, List.getElem_cons_succ, List.setIfInBounds_toArray, List.set_cons_zero, List.set_cons_succ])
            refine wpAnyH_done (by kernel_rfl) ?_ _
            go_wp2_with fail
            go_ret
            exact ⟨by rw [HF.out]; rfl, HB.out.trans (Below.mono (held9x (by assumption)) HB.out.size)⟩

end Go.Proofs.YtoaiejodbmkbjaaGreatDoor
