/-
  The program's isValidStmt: Obs, If, Rep. (Written by gen_pgis.py.)
-/
import Derived.Test.YtoaiejodbmkbjaaGreatDoorPgIs0
namespace Go.Proofs.YtoaiejodbmkbjaaGreatDoor
open Go.RowKit Num

theorem stEqObs {P : Prg} {i : Nat} (hk : (P.st i).kind = 4) : StEq (P.st i) ⟨(P.st i).kind, 0, (P.st i).ex, 0, (P.st i).ch, 0, (P.st i).th, 0, (P.st i).el, 0, 0⟩ ↔ Uses (P.st i) false true false false false false := by
  simp only [StEq, Uses, LsEq]
  constructor
  · intro h
    simp_all
  · intro h
    simp_all

set_option maxRecDepth 100000 in
set_option maxHeartbeats 6400000 in
theorem implStObs_any (lo : Nat) (P : Prg) (i : Nat) (Av Ax As Ap Ab : Option Addr) (cv cx cs cp cb : Nat) (w : World) (hs : P.small) (_hV : VarsOk P) (hi : i < P.ns) (hk : (P.st i).kind = 4) (h : PgAt lo w Av Ax As Ap Ab P) :
    Calls Tryz.prog 49 #[.agg #[.slice Av P.nv cv, .slice Ax P.nx cx, .slice As P.ns cs, .slice Ap P.np cp, .slice Ab P.nb cb, .int .i64 P.fuel], .int .i64 (i : Nat)] w (Yn (((0 ≤ (P.st i).ex ∧ (P.st i).ex ≤ (P.nx : Int) - 1) ∧ Uses (P.st i) false true false false false false) ∧ AftOk P i) w) := by
  have hP0 := Box.new w 37 #[.slice Av P.nv cv, .slice Ax P.nx cx, .slice As P.ns cs, .slice Ap P.np cp, .slice Ab P.nb cb, .int .i64 P.fuel]
  have hB0 := (Below.refl w.heap.size w).alloc (Nat.le_refl _) (.cells #[.slice Av P.nv cv, .slice Ax P.nx cx, .slice As P.ns cs, .slice Ap P.np cp, .slice Ab P.nb cb, .int .i64 P.fuel] 37)
  obtain ⟨w1, hw1⟩ : ∃ w1, w1 = w.alloc (.cells #[.slice Av P.nv cv, .slice Ax P.nx cx, .slice As P.ns cs, .slice Ap P.np cp, .slice Ab P.nb cb, .int .i64 P.fuel] 37) := ⟨_, rfl⟩
  have hz1 : w1.heap.size = w.heap.size + 1 := by rw [hw1]; simp
  rw [← hw1] at hP0 hB0
  have H1 := h.below hB0 (Nat.le_refl _)
  obtain ⟨b, off, A3, c3, A4, c4, A5, c5, rfl, hb, r0, r1, r2, r3, r4, r5, r6, r7, g3, g4, g5⟩ := H1.s.at_ hi
  have hQ := Box.new w1 77 #[.int .i64 (P.st i).kind, .int .i64 (P.st i).var, .int .i64 (P.st i).ex, .slice A3 (P.st i).nc c3, .slice A4 (P.st i).nt c4, .slice A5 (P.st i).ne c5, .int .i64 (P.st i).times, .int .i64 (P.st i).proc]
  have hal := (Below.refl w1.heap.size w1).alloc (Nat.le_refl _) (.cells #[.int .i64 (P.st i).kind, .int .i64 (P.st i).var, .int .i64 (P.st i).ex, .slice A3 (P.st i).nc c3, .slice A4 (P.st i).nt c4, .slice A5 (P.st i).ne c5, .int .i64 (P.st i).times, .int .i64 (P.st i).proc] 77)
  have hP := hP0.alloc (.cells #[.int .i64 (P.st i).kind, .int .i64 (P.st i).var, .int .i64 (P.st i).ex, .slice A3 (P.st i).nc c3, .slice A4 (P.st i).nt c4, .slice A5 (P.st i).ne c5, .int .i64 (P.st i).times, .int .i64 (P.st i).proc] 77)
  obtain ⟨W, hW⟩ : ∃ W, W = w1.alloc (.cells #[.int .i64 (P.st i).kind, .int .i64 (P.st i).var, .int .i64 (P.st i).ex, .slice A3 (P.st i).nc c3, .slice A4 (P.st i).nt c4, .slice A5 (P.st i).ne c5, .int .i64 (P.st i).times, .int .i64 (P.st i).proc] 77) := ⟨_, rfl⟩
  rw [← hW] at hQ hal hP
  rw [hz1] at hQ
  have hB := hB0.trans (hal.mono hB0.size)
  have hsm := hs.st i hi
  have k3 := g3.below hal (Nat.le_refl _)
  have k4 := g4.below hal (Nat.le_refl _)
  have k5 := g5.below hal (Nat.le_refl _)
  have hus : Stm.small ⟨(P.st i).kind, 0, (P.st i).ex, 0, (P.st i).ch, 0, (P.st i).th, 0, (P.st i).el, 0, 0⟩ := ⟨by show 0 ≤ 1048576; omega, by show 0 ≤ 1048576; omega, by show 0 ≤ 1048576; omega⟩
  have CU : Hid (∀ W', _) := Lib.hid fun W' => usedObs_any (P.st i) A3 A4 A5 c3 c4 c5 W' hk
  have CQ : Hid (∀ W', Below W.heap.size W W' → _) := Lib.hid fun W' hW' => eqStmts_any lo lo (P.st i) ⟨(P.st i).kind, 0, (P.st i).ex, 0, (P.st i).ch, 0, (P.st i).th, 0, (P.st i).el, 0, 0⟩ A3 A4 A5 none none none c3 c4 c5 0 0 0 W' hsm hus (k3.below hW' (Nat.le_refl _)) (k4.below hW' (Nat.le_refl _)) (k5.below hW' (Nat.le_refl _)) (fun h => absurd h (Nat.lt_irrefl 0)) (fun h => absurd h (Nat.lt_irrefl 0)) (fun h => absurd h (Nat.lt_irrefl 0))
  have CT : Hid (∀ W', Below W.heap.size W W' → _) := Lib.hid fun W' hW' => after_any lo A4 (P.st i).nt c4 i (P.st i).th W' hsm.nt (k4.below hW' (Nat.le_refl _))
  have CE : Hid (∀ W', Below W.heap.size W W' → _) := Lib.hid fun W' hW' => after_any lo A5 (P.st i).ne c5 i (P.st i).el W' hsm.ne (k5.below hW' (Nat.le_refl _))
  have HE := Lib.hid (stEqObs hk)
  have t1 : ((P.st i).kind == 1) = false := by rw [hk]; rfl
  have t2 : ((P.st i).kind == 2) = false := by rw [hk]; rfl
  have t3 : ((P.st i).kind == 3) = false := by rw [hk]; rfl
  have t4 : ((P.st i).kind == 4) = true := by rw [hk]; rfl
  have hil : (i : Int) < (P.ns : Int) := by omega
  clear hk h H1 g3 g4 g5 k3 k4 k5 hsm hus hs _hV hP0 hB0
  rw [hw1] at r0 r1 r2 r3 r4 r5 r6 r7 hW
  go_enter Tryz.func49, Tryz.ntmps49
  go_upto_region 2 with fail
  rw [← hW]
  clear hW r0 r1 r2 r3 r4 r5 r6 r7 hil hal
  obtain ⟨q0, q1, q2, q3, q4, q5, q6, q7, qf⟩ := hQ.eight
  have hql := hQ.lt
  refine wp_region_held_drew (S := (fun w' => w'.cell? ⟨w.heap.size + 1, 0, none⟩ = some (.int .i64 (P.st i).kind) ∧ w'.cell? ⟨w.heap.size + 1, 1, none⟩ = some (.int .i64 (P.st i).var) ∧ w'.cell? ⟨w.heap.size + 1, 2, none⟩ = some (.int .i64 (P.st i).ex) ∧ w'.cell? ⟨w.heap.size + 1, 3, none⟩ = some (.slice A3 (P.st i).nc c3) ∧ w'.cell? ⟨w.heap.size + 1, 4, none⟩ = some (.slice A4 (P.st i).nt c4) ∧ w'.cell? ⟨w.heap.size + 1, 5, none⟩ = some (.slice A5 (P.st i).ne c5) ∧ w'.cell? ⟨w.heap.size + 1, 6, none⟩ = some (.int .i64 (P.st i).times) ∧ w'.cell? ⟨w.heap.size + 1, 7, none⟩ = some (.int .i64 (P.st i).proc) ∧ Below W.heap.size W w')) (by kernel_rfl) ?_ (fun hHeld => ?_)
  · (try dsimp only); (suffices hBB : Below W.heap.size W _ from ⟨(hBB.cell hql).trans q0, (hBB.cell hql).trans q1, (hBB.cell hql).trans q2, (hBB.cell hql).trans q3, (hBB.cell hql).trans q4, (hBB.cell hql).trans q5, (hBB.cell hql).trans q6, (hBB.cell hql).trans q7, hBB⟩; first | exact (Below.refl _ W).drew | exact held8b (by assumption) | (refine stepB (held8b (by assumption)) ?_; assumption))
  refine wpAnyH_take (i := 0) (v := .agg #[.int .i64 (P.st i).kind, .int .i64 (P.st i).var, .int .i64 (P.st i).ex, .slice A3 (P.st i).nc c3, .slice A4 (P.st i).nt c4, .slice A5 (P.st i).ne c5, .int .i64 (P.st i).times, .int .i64 (P.st i).proc]) rfl (by kernel_rfl) (by kernel_rfl) (by kernel_rfl) (fun _ _ _ h => h) (Or.inl ⟨by rfl, ?_⟩) (by assumption) ?_
  · intro w' hSw; (try dsimp only at hSw); go_simp
  (try simp only [Act.put, List.getElem_toArray, List.getElem_cons_zero, List.setIfInBounds_toArray, List.set_cons_zero, List.set_cons_succ])
  refine wpAnyH_take (i := 1) (v := .agg #[.int .i64 (P.st i).kind, .int .i64 (P.st i).var, .int .i64 (P.st i).ex, .slice A3 (P.st i).nc c3, .slice A4 (P.st i).nt c4, .slice A5 (P.st i).ne c5, .int .i64 (P.st i).times, .int .i64 (P.st i).proc]) rfl (by kernel_rfl) (by kernel_rfl) (by kernel_rfl) (fun _ _ _ h => h) (Or.inl ⟨by rfl, ?_⟩) (by assumption) ?_
  · intro w' hSw; (try dsimp only at hSw); go_simp
  (try simp only [Act.put, List.getElem_toArray, List.getElem_cons_zero, List.getElem_cons_succ, List.setIfInBounds_toArray, List.set_cons_zero, List.set_cons_succ])
  refine wpAnyH_ready (rs := [2]) (by kernel_rfl) (by simp) ?_
  refine AllReadyH.cons rfl (fun K hK => ?_) AllReadyH.nil
  go_simp
  go_wp2_with (go_at_call 68; refine (CU.out _).mono ?_; rintro e w2 ⟨rfl, hb2⟩)
  refine hK.out _ _ ?_ (fun hHeld => ?_)
  · (try dsimp only); (suffices hBB : Below W.heap.size W _ from ⟨(hBB.cell hql).trans q0, (hBB.cell hql).trans q1, (hBB.cell hql).trans q2, (hBB.cell hql).trans q3, (hBB.cell hql).trans q4, (hBB.cell hql).trans q5, (hBB.cell hql).trans q6, (hBB.cell hql).trans q7, hBB⟩; first | exact (Below.refl _ W).drew | exact held8b (by assumption) | (refine stepB (held8b (by assumption)) ?_; assumption))
  clear hK K
  (try simp only [Act.put, List.getElem_toArray, List.getElem_cons_zero, List.getElem_cons_succ, List.setIfInBounds_toArray, List.set_cons_zero, List.set_cons_succ])
  refine wpAnyH_ready (rs := [3]) (by kernel_rfl) (by simp) ?_
  refine AllReadyH.cons rfl (fun K hK => ?_) AllReadyH.nil
  go_simp
  go_wp2_with (go_at_call 67; refine (CQ.out _ (held8b (by assumption))).mono ?_; rintro e w3 ⟨r, rfl, hr, hb3⟩)
  refine hK.out _ _ ?_ (fun hHeld => ?_)
  · (try dsimp only); (suffices hBB : Below W.heap.size W _ from ⟨(hBB.cell hql).trans q0, (hBB.cell hql).trans q1, (hBB.cell hql).trans q2, (hBB.cell hql).trans q3, (hBB.cell hql).trans q4, (hBB.cell hql).trans q5, (hBB.cell hql).trans q6, (hBB.cell hql).trans q7, hBB⟩; first | exact (Below.refl _ W).drew | exact held8b (by assumption) | (refine stepB (held8b (by assumption)) ?_; assumption))
  clear hK K
  (try simp only [Act.put, List.getElem_toArray, List.getElem_cons_zero, List.getElem_cons_succ, List.setIfInBounds_toArray, List.set_cons_zero, List.set_cons_succ])
  cases r with
  | false =>
    refine wpAnyH_take (i := 4) (v := .bool true) rfl (by kernel_rfl) (by kernel_rfl) (by kernel_rfl) (fun _ _ _ h => h) (Or.inl ⟨by rfl, ?_⟩) (by assumption) ?_
    · intro w' hSw; (try dsimp only at hSw); go_simp
    (try simp only [Act.put, List.getElem_toArray, List.getElem_cons_zero, List.getElem_cons_succ, List.setIfInBounds_toArray, List.set_cons_zero, List.set_cons_succ])
    refine wpAnyH_take (i := 5) (v := .bool true) rfl (by kernel_rfl) (by kernel_rfl) (by kernel_rfl) (fun _ _ _ h => h) (Or.inl ⟨by rfl, ?_⟩) (by assumption) ?_
    · intro w' hSw; (try dsimp only at hSw); go_simp
    (try simp only [Act.put, List.getElem_toArray, List.getElem_cons_zero, List.getElem_cons_succ, List.setIfInBounds_toArray, List.set_cons_zero, List.set_cons_succ])
    refine wpAnyH_take (i := 6) (v := undef) rfl (by kernel_rfl) (by kernel_rfl) (by kernel_rfl) (fun _ _ _ h => h) (Or.inr ⟨by simp [Region.wanted, yielded], rfl⟩) (by assumption) ?_
    (try simp only [Act.put, List.getElem_toArray, List.getElem_cons_zero, List.getElem_cons_succ, List.setIfInBounds_toArray, List.set_cons_zero, List.set_cons_succ])
    refine wpAnyH_take (i := 7) (v := undef) rfl (by kernel_rfl) (by kernel_rfl) (by kernel_rfl) (fun _ _ _ h => h) (Or.inr ⟨by simp [Region.wanted, yielded], rfl⟩) (by assumption) ?_
    (try simp only [Act.put, List.getElem_toArray, List.getElem_cons_zero, List.getElem_cons_succ, List.setIfInBounds_toArray, List.set_cons_zero, List.set_cons_succ])
    refine wpAnyH_take (i := 8) (v := undef) rfl (by kernel_rfl) (by kernel_rfl) (by kernel_rfl) (fun _ _ _ h => h) (Or.inr ⟨by simp [Region.wanted, yielded], rfl⟩) (by assumption) ?_
    (try simp only [Act.put, List.getElem_toArray, List.getElem_cons_zero, List.getElem_cons_succ, List.setIfInBounds_toArray, List.set_cons_zero, List.set_cons_succ])
    refine wpAnyH_take (i := 9) (v := undef) rfl (by kernel_rfl) (by kernel_rfl) (by kernel_rfl) (fun _ _ _ h => h) (Or.inr ⟨by simp [Region.wanted, yielded], rfl⟩) (by assumption) ?_
    (try simp only [Act.put, List.getElem_toArray, List.getElem_cons_zero, List.getElem_cons_succ, List.setIfInBounds_toArray, List.set_cons_zero, List.set_cons_succ])
    refine wpAnyH_take (i := 10) (v := undef) rfl (by kernel_rfl) (by kernel_rfl) (by kernel_rfl) (fun _ _ _ h => h) (Or.inr ⟨by simp [Region.wanted, yielded], rfl⟩) (by assumption) ?_
    (try simp only [Act.put, List.getElem_toArray, List.getElem_cons_zero, List.getElem_cons_succ, List.setIfInBounds_toArray, List.set_cons_zero, List.set_cons_succ])
    refine wpAnyH_take (i := 11) (v := .bool true) rfl (by kernel_rfl) (by kernel_rfl) (by kernel_rfl) (fun _ _ _ h => h) (Or.inl ⟨by rfl, ?_⟩) (by assumption) ?_
    · intro w' hSw; (try dsimp only at hSw); go_simp
    (try simp only [Act.put, List.getElem_toArray, List.getElem_cons_zero, List.getElem_cons_succ, List.setIfInBounds_toArray, List.set_cons_zero, List.set_cons_succ])
    refine wpAnyH_take (i := 12) (v := .bool true) rfl (by kernel_rfl) (by kernel_rfl) (by kernel_rfl) (fun _ _ _ h => h) (Or.inl ⟨by rfl, ?_⟩) (by assumption) ?_
    · intro w' hSw; (try dsimp only at hSw); go_simp
    (try simp only [Act.put, List.getElem_toArray, List.getElem_cons_zero, List.getElem_cons_succ, List.setIfInBounds_toArray, List.set_cons_zero, List.set_cons_succ])
    refine wpAnyH_take (i := 13) (v := undef) rfl (by kernel_rfl) (by kernel_rfl) (by kernel_rfl) (fun _ _ _ h => h) (Or.inr ⟨by simp [Region.wanted, yielded], rfl⟩) (by assumption) ?_
    (try simp only [Act.put, List.getElem_toArray, List.getElem_cons_zero, List.getElem_cons_succ, List.setIfInBounds_toArray, List.set_cons_zero, List.set_cons_succ])
    refine wpAnyH_take (i := 14) (v := undef) rfl (by kernel_rfl) (by kernel_rfl) (by kernel_rfl) (fun _ _ _ h => h) (Or.inr ⟨by simp [Region.wanted, yielded], rfl⟩) (by assumption) ?_
    (try simp only [Act.put, List.getElem_toArray, List.getElem_cons_zero, List.getElem_cons_succ, List.setIfInBounds_toArray, List.set_cons_zero, List.set_cons_succ])
    refine wpAnyH_take (i := 15) (v := undef) rfl (by kernel_rfl) (by kernel_rfl) (by kernel_rfl) (fun _ _ _ h => h) (Or.inr ⟨by simp [Region.wanted, yielded], rfl⟩) (by assumption) ?_
    (try simp only [Act.put, List.getElem_toArray, List.getElem_cons_zero, List.getElem_cons_succ, List.setIfInBounds_toArray, List.set_cons_zero, List.set_cons_succ])
    refine wpAnyH_take (i := 16) (v := undef) rfl (by kernel_rfl) (by kernel_rfl) (by kernel_rfl) (fun _ _ _ h => h) (Or.inr ⟨by simp [Region.wanted, yielded], rfl⟩) (by assumption) ?_
    (try simp only [Act.put, List.getElem_toArray, List.getElem_cons_zero, List.getElem_cons_succ, List.setIfInBounds_toArray, List.set_cons_zero, List.set_cons_succ])
    refine wpAnyH_take (i := 17) (v := undef) rfl (by kernel_rfl) (by kernel_rfl) (by kernel_rfl) (fun _ _ _ h => h) (Or.inr ⟨by simp [Region.wanted, yielded], rfl⟩) (by assumption) ?_
    (try simp only [Act.put, List.getElem_toArray, List.getElem_cons_zero, List.getElem_cons_succ, List.setIfInBounds_toArray, List.set_cons_zero, List.set_cons_succ])
    refine wpAnyH_take (i := 18) (v := .bool true) rfl (by kernel_rfl) (by kernel_rfl) (by kernel_rfl) (fun _ _ _ h => h) (Or.inl ⟨by rfl, ?_⟩) (by assumption) ?_
    · intro w' hSw; (try dsimp only at hSw); go_simp
    (try simp only [Act.put, List.getElem_toArray, List.getElem_cons_zero, List.getElem_cons_succ, List.setIfInBounds_toArray, List.set_cons_zero, List.set_cons_succ])
    refine wpAnyH_done (by kernel_rfl) ?_ _
    go_wp2_with fail
    go_ret
    exact Yn.no (fun h => by have h1 := hr.out.2 (HE.out.2 h.1.2); cases h1) (hB.trans ((held8b (by assumption)).mono hB.size))
  | true =>
    have HU := Lib.hid (HE.out.1 (hr.out.1 rfl))
    refine wpAnyH_take (i := 4) (v := .bool false) rfl (by kernel_rfl) (by kernel_rfl) (by kernel_rfl) (fun _ _ _ h => h) (Or.inl ⟨by rfl, ?_⟩) (by assumption) ?_
    · intro w' hSw; (try dsimp only at hSw); go_simp
    (try simp only [Act.put, List.getElem_toArray, List.getElem_cons_zero, List.getElem_cons_succ, List.setIfInBounds_toArray, List.set_cons_zero, List.set_cons_succ])
    refine wpAnyH_take (i := 5) (v := .bool false) rfl (by kernel_rfl) (by kernel_rfl) (by kernel_rfl) (fun _ _ _ h => h) (Or.inl ⟨by rfl, ?_⟩) (by assumption) ?_
    · intro w' hSw; (try dsimp only at hSw); go_simp
    (try simp only [Act.put, List.getElem_toArray, List.getElem_cons_zero, List.getElem_cons_succ, List.setIfInBounds_toArray, List.set_cons_zero, List.set_cons_succ])
    refine wpAnyH_take (i := 6) (v := .int .i64 (i : Nat)) rfl (by kernel_rfl) (by kernel_rfl) (by kernel_rfl) (fun _ _ _ h => h) (Or.inl ⟨by rfl, ?_⟩) (by assumption) ?_
    · intro w' hSw; (try dsimp only at hSw); go_simp
    (try simp only [Act.put, List.getElem_toArray, List.getElem_cons_zero, List.getElem_cons_succ, List.setIfInBounds_toArray, List.set_cons_zero, List.set_cons_succ])
    refine wpAnyH_take (i := 7) (v := .pointer (some ⟨w.heap.size + 1, 4, none⟩)) rfl (by kernel_rfl) (by kernel_rfl) (by kernel_rfl) (fun _ _ _ h => h) (Or.inl ⟨by rfl, ?_⟩) (by assumption) ?_
    · intro w' hSw; (try dsimp only at hSw); go_simp
    (try simp only [Act.put, List.getElem_toArray, List.getElem_cons_zero, List.getElem_cons_succ, List.setIfInBounds_toArray, List.set_cons_zero, List.set_cons_succ])
    refine wpAnyH_take (i := 8) (v := .slice A4 (P.st i).nt c4) rfl (by kernel_rfl) (by kernel_rfl) (by kernel_rfl) (fun _ _ _ h => h) (Or.inl ⟨by rfl, ?_⟩) (by assumption) ?_
    · intro w' hSw; (try dsimp only at hSw); go_simp
    (try simp only [Act.put, List.getElem_toArray, List.getElem_cons_zero, List.getElem_cons_succ, List.setIfInBounds_toArray, List.set_cons_zero, List.set_cons_succ])
    refine wpAnyH_ready (rs := [9]) (by kernel_rfl) (by simp) ?_
    refine AllReadyH.cons rfl (fun K hK => ?_) AllReadyH.nil
    go_simp
    go_wp2_with (go_at_call 69; refine (CT.out _ (held8b (by assumption))).mono ?_; rintro e w4 ⟨r4, rfl, hr4, hb4⟩)
    refine hK.out _ _ ?_ (fun hHeld => ?_)
    · (try dsimp only); (suffices hBB : Below W.heap.size W _ from ⟨(hBB.cell hql).trans q0, (hBB.cell hql).trans q1, (hBB.cell hql).trans q2, (hBB.cell hql).trans q3, (hBB.cell hql).trans q4, (hBB.cell hql).trans q5, (hBB.cell hql).trans q6, (hBB.cell hql).trans q7, hBB⟩; first | exact (Below.refl _ W).drew | exact held8b (by assumption) | (refine stepB (held8b (by assumption)) ?_; assumption))
    clear hK K
    (try simp only [Act.put, List.getElem_toArray, List.getElem_cons_zero, List.getElem_cons_succ, List.setIfInBounds_toArray, List.set_cons_zero, List.set_cons_succ])
    cases r4 with
    | false =>
      refine wpAnyH_take (i := 10) (v := .bool true) rfl (by kernel_rfl) (by kernel_rfl) (by kernel_rfl) (fun _ _ _ h => h) (Or.inl ⟨by rfl, ?_⟩) (by assumption) ?_
      · intro w' hSw; (try dsimp only at hSw); go_simp
      (try simp only [Act.put, List.getElem_toArray, List.getElem_cons_zero, List.getElem_cons_succ, List.setIfInBounds_toArray, List.set_cons_zero, List.set_cons_succ])
      refine wpAnyH_take (i := 11) (v := .bool true) rfl (by kernel_rfl) (by kernel_rfl) (by kernel_rfl) (fun _ _ _ h => h) (Or.inl ⟨by rfl, ?_⟩) (by assumption) ?_
      · intro w' hSw; (try dsimp only at hSw); go_simp
      (try simp only [Act.put, List.getElem_toArray, List.getElem_cons_zero, List.getElem_cons_succ, List.setIfInBounds_toArray, List.set_cons_zero, List.set_cons_succ])
      refine wpAnyH_take (i := 12) (v := .bool true) rfl (by kernel_rfl) (by kernel_rfl) (by kernel_rfl) (fun _ _ _ h => h) (Or.inl ⟨by rfl, ?_⟩) (by assumption) ?_
      · intro w' hSw; (try dsimp only at hSw); go_simp
      (try simp only [Act.put, List.getElem_toArray, List.getElem_cons_zero, List.getElem_cons_succ, List.setIfInBounds_toArray, List.set_cons_zero, List.set_cons_succ])
      refine wpAnyH_take (i := 13) (v := undef) rfl (by kernel_rfl) (by kernel_rfl) (by kernel_rfl) (fun _ _ _ h => h) (Or.inr ⟨by simp [Region.wanted, yielded], rfl⟩) (by assumption) ?_
      (try simp only [Act.put, List.getElem_toArray, List.getElem_cons_zero, List.getElem_cons_succ, List.setIfInBounds_toArray, List.set_cons_zero, List.set_cons_succ])
      refine wpAnyH_take (i := 14) (v := undef) rfl (by kernel_rfl) (by kernel_rfl) (by kernel_rfl) (fun _ _ _ h => h) (Or.inr ⟨by simp [Region.wanted, yielded], rfl⟩) (by assumption) ?_
      (try simp only [Act.put, List.getElem_toArray, List.getElem_cons_zero, List.getElem_cons_succ, List.setIfInBounds_toArray, List.set_cons_zero, List.set_cons_succ])
      refine wpAnyH_take (i := 15) (v := undef) rfl (by kernel_rfl) (by kernel_rfl) (by kernel_rfl) (fun _ _ _ h => h) (Or.inr ⟨by simp [Region.wanted, yielded], rfl⟩) (by assumption) ?_
      (try simp only [Act.put, List.getElem_toArray, List.getElem_cons_zero, List.getElem_cons_succ, List.setIfInBounds_toArray, List.set_cons_zero, List.set_cons_succ])
      refine wpAnyH_take (i := 16) (v := undef) rfl (by kernel_rfl) (by kernel_rfl) (by kernel_rfl) (fun _ _ _ h => h) (Or.inr ⟨by simp [Region.wanted, yielded], rfl⟩) (by assumption) ?_
      (try simp only [Act.put, List.getElem_toArray, List.getElem_cons_zero, List.getElem_cons_succ, List.setIfInBounds_toArray, List.set_cons_zero, List.set_cons_succ])
      refine wpAnyH_take (i := 17) (v := undef) rfl (by kernel_rfl) (by kernel_rfl) (by kernel_rfl) (fun _ _ _ h => h) (Or.inr ⟨by simp [Region.wanted, yielded], rfl⟩) (by assumption) ?_
      (try simp only [Act.put, List.getElem_toArray, List.getElem_cons_zero, List.getElem_cons_succ, List.setIfInBounds_toArray, List.set_cons_zero, List.set_cons_succ])
      refine wpAnyH_take (i := 18) (v := .bool true) rfl (by kernel_rfl) (by kernel_rfl) (by kernel_rfl) (fun _ _ _ h => h) (Or.inl ⟨by rfl, ?_⟩) (by assumption) ?_
      · intro w' hSw; (try dsimp only at hSw); go_simp
      (try simp only [Act.put, List.getElem_toArray, List.getElem_cons_zero, List.getElem_cons_succ, List.setIfInBounds_toArray, List.set_cons_zero, List.set_cons_succ])
      refine wpAnyH_done (by kernel_rfl) ?_ _
      go_wp2_with fail
      go_ret
      exact Yn.no (fun h => by have h1 := hr4.out.2 h.2.1; cases h1) (hB.trans ((held8b (by assumption)).mono hB.size))
    | true =>
      have HA4 := Lib.hid (hr4.out.1 rfl)
      refine wpAnyH_take (i := 10) (v := .bool false) rfl (by kernel_rfl) (by kernel_rfl) (by kernel_rfl) (fun _ _ _ h => h) (Or.inl ⟨by rfl, ?_⟩) (by assumption) ?_
      · intro w' hSw; (try dsimp only at hSw); go_simp
      (try simp only [Act.put, List.getElem_toArray, List.getElem_cons_zero, List.getElem_cons_succ, List.setIfInBounds_toArray, List.set_cons_zero, List.set_cons_succ])
      refine wpAnyH_take (i := 11) (v := .bool false) rfl (by kernel_rfl) (by kernel_rfl) (by kernel_rfl) (fun _ _ _ h => h) (Or.inl ⟨by rfl, ?_⟩) (by assumption) ?_
      · intro w' hSw; (try dsimp only at hSw); go_simp
      (try simp only [Act.put, List.getElem_toArray, List.getElem_cons_zero, List.getElem_cons_succ, List.setIfInBounds_toArray, List.set_cons_zero, List.set_cons_succ])
      refine wpAnyH_take (i := 12) (v := .bool false) rfl (by kernel_rfl) (by kernel_rfl) (by kernel_rfl) (fun _ _ _ h => h) (Or.inl ⟨by rfl, ?_⟩) (by assumption) ?_
      · intro w' hSw; (try dsimp only at hSw); go_simp
      (try simp only [Act.put, List.getElem_toArray, List.getElem_cons_zero, List.getElem_cons_succ, List.setIfInBounds_toArray, List.set_cons_zero, List.set_cons_succ])
      refine wpAnyH_take (i := 13) (v := .int .i64 (i : Nat)) rfl (by kernel_rfl) (by kernel_rfl) (by kernel_rfl) (fun _ _ _ h => h) (Or.inl ⟨by rfl, ?_⟩) (by assumption) ?_
      · intro w' hSw; (try dsimp only at hSw); go_simp
      (try simp only [Act.put, List.getElem_toArray, List.getElem_cons_zero, List.getElem_cons_succ, List.setIfInBounds_toArray, List.set_cons_zero, List.set_cons_succ])
      refine wpAnyH_take (i := 14) (v := .pointer (some ⟨w.heap.size + 1, 5, none⟩)) rfl (by kernel_rfl) (by kernel_rfl) (by kernel_rfl) (fun _ _ _ h => h) (Or.inl ⟨by rfl, ?_⟩) (by assumption) ?_
      · intro w' hSw; (try dsimp only at hSw); go_simp
      (try simp only [Act.put, List.getElem_toArray, List.getElem_cons_zero, List.getElem_cons_succ, List.setIfInBounds_toArray, List.set_cons_zero, List.set_cons_succ])
      refine wpAnyH_take (i := 15) (v := .slice A5 (P.st i).ne c5) rfl (by kernel_rfl) (by kernel_rfl) (by kernel_rfl) (fun _ _ _ h => h) (Or.inl ⟨by rfl, ?_⟩) (by assumption) ?_
      · intro w' hSw; (try dsimp only at hSw); go_simp
      (try simp only [Act.put, List.getElem_toArray, List.getElem_cons_zero, List.getElem_cons_succ, List.setIfInBounds_toArray, List.set_cons_zero, List.set_cons_succ])
      refine wpAnyH_ready (rs := [16]) (by kernel_rfl) (by simp) ?_
      refine AllReadyH.cons rfl (fun K hK => ?_) AllReadyH.nil
      go_simp
      go_wp2_with (go_at_call 69; refine (CE.out _ (held8b (by assumption))).mono ?_; rintro e w5 ⟨r5, rfl, hr5, hb5⟩)
      refine hK.out _ _ ?_ (fun hHeld => ?_)
      · (try dsimp only); (suffices hBB : Below W.heap.size W _ from ⟨(hBB.cell hql).trans q0, (hBB.cell hql).trans q1, (hBB.cell hql).trans q2, (hBB.cell hql).trans q3, (hBB.cell hql).trans q4, (hBB.cell hql).trans q5, (hBB.cell hql).trans q6, (hBB.cell hql).trans q7, hBB⟩; first | exact (Below.refl _ W).drew | exact held8b (by assumption) | (refine stepB (held8b (by assumption)) ?_; assumption))
      clear hK K
      (try simp only [Act.put, List.getElem_toArray, List.getElem_cons_zero, List.getElem_cons_succ, List.setIfInBounds_toArray, List.set_cons_zero, List.set_cons_succ])
      cases r5 with
      | false =>
        refine wpAnyH_take (i := 17) (v := .bool true) rfl (by kernel_rfl) (by kernel_rfl) (by kernel_rfl) (fun _ _ _ h => h) (Or.inl ⟨by rfl, ?_⟩) (by assumption) ?_
        · intro w' hSw; (try dsimp only at hSw); go_simp
        (try simp only [Act.put, List.getElem_toArray, List.getElem_cons_zero, List.getElem_cons_succ, List.setIfInBounds_toArray, List.set_cons_zero, List.set_cons_succ])
        refine wpAnyH_take (i := 18) (v := .bool true) rfl (by kernel_rfl) (by kernel_rfl) (by kernel_rfl) (fun _ _ _ h => h) (Or.inl ⟨by rfl, ?_⟩) (by assumption) ?_
        · intro w' hSw; (try dsimp only at hSw); go_simp
        (try simp only [Act.put, List.getElem_toArray, List.getElem_cons_zero, List.getElem_cons_succ, List.setIfInBounds_toArray, List.set_cons_zero, List.set_cons_succ])
        refine wpAnyH_done (by kernel_rfl) ?_ _
        go_wp2_with fail
        go_ret
        exact Yn.no (fun h => by have h1 := hr5.out.2 h.2.2; cases h1) (hB.trans ((held8b (by assumption)).mono hB.size))
      | true =>
        have HA5 := Lib.hid (hr5.out.1 rfl)
        refine wpAnyH_take (i := 17) (v := .bool false) rfl (by kernel_rfl) (by kernel_rfl) (by kernel_rfl) (fun _ _ _ h => h) (Or.inl ⟨by rfl, ?_⟩) (by assumption) ?_
        · intro w' hSw; (try dsimp only at hSw); go_simp
        (try simp only [Act.put, List.getElem_toArray, List.getElem_cons_zero, List.getElem_cons_succ, List.setIfInBounds_toArray, List.set_cons_zero, List.set_cons_succ])
        refine wpAnyH_take (i := 18) (v := .bool false) rfl (by kernel_rfl) (by kernel_rfl) (by kernel_rfl) (fun _ _ _ h => h) (Or.inl ⟨by rfl, ?_⟩) (by assumption) ?_
        · intro w' hSw; (try dsimp only at hSw); go_simp
        (try simp only [Act.put, List.getElem_toArray, List.getElem_cons_zero, List.getElem_cons_succ, List.setIfInBounds_toArray, List.set_cons_zero, List.set_cons_succ])
        refine wpAnyH_done (by kernel_rfl) ?_ _
        have hb := held8b (by assumption)
        have hP := hP.below hb hP.lt
        have hQ := hQ.below hb hQ.lt
        have hB := hB.trans (hb.mono hB.size)
        clear hHeld q0 q1 q2 q3 q4 q5 q6 q7 qf
        obtain ⟨q0, q1, q2, q3, q4, q5, q6, q7, qf⟩ := hQ.eight
        obtain ⟨p0, p1, p2, p3, p4, p5, pf⟩ := hP.six
        obtain ⟨be, hbe⟩ : ∃ b, b = decide (0 ≤ (P.st i).ex ∧ (P.st i).ex < (P.nx : Int)) := ⟨_, rfl⟩
        have Ce : Hid (∀ W, Calls Tryz.prog 24 #[.int .i64 (P.st i).ex, .int .i64 (P.nx : Nat)] W fun e w' => e = .returned (.bool be) ∧ W = w') := Lib.hid fun W => by rw [hbe]; exact idx_any _ _ W
        have He : Hid (be = true ↔ (0 ≤ (P.st i).ex ∧ (P.st i).ex ≤ (P.nx : Int) - 1)) := Lib.hid (by rw [hbe, decide_eq_true_iff]; omega)
        clear hbe
        go_wp2_with (first | (go_at_call 24; with_reducible refine (Ce.out _).mono ?_; rintro e w' ⟨rfl, rfl⟩))
        go_ret
        exact ⟨be, rfl, Lib.hid ⟨fun h => ⟨⟨He.out.1 h, HU.out⟩, ⟨HA4.out, HA5.out⟩⟩, fun h => He.out.2 h.1.1⟩, hB⟩

theorem stEqIf {P : Prg} {i : Nat} (hk : (P.st i).kind = 5) : StEq (P.st i) ⟨(P.st i).kind, 0, (P.st i).ex, 0, (P.st i).ch, (P.st i).nt, (P.st i).th, (P.st i).ne, (P.st i).el, 0, 0⟩ ↔ Uses (P.st i) false true false false true true := by
  simp only [StEq, Uses, LsEq]
  constructor
  · intro h
    simp_all
  · intro h
    simp_all

set_option maxRecDepth 100000 in
set_option maxHeartbeats 6400000 in
theorem implStIf_any (lo : Nat) (P : Prg) (i : Nat) (Av Ax As Ap Ab : Option Addr) (cv cx cs cp cb : Nat) (w : World) (hs : P.small) (_hV : VarsOk P) (hi : i < P.ns) (hk : (P.st i).kind = 5) (h : PgAt lo w Av Ax As Ap Ab P) :
    Calls Tryz.prog 49 #[.agg #[.slice Av P.nv cv, .slice Ax P.nx cx, .slice As P.ns cs, .slice Ap P.np cp, .slice Ab P.nb cb, .int .i64 P.fuel], .int .i64 (i : Nat)] w (Yn (((0 ≤ (P.st i).ex ∧ (P.st i).ex ≤ (P.nx : Int) - 1) ∧ Uses (P.st i) false true false false true true) ∧ AftOk P i) w) := by
  have hP0 := Box.new w 37 #[.slice Av P.nv cv, .slice Ax P.nx cx, .slice As P.ns cs, .slice Ap P.np cp, .slice Ab P.nb cb, .int .i64 P.fuel]
  have hB0 := (Below.refl w.heap.size w).alloc (Nat.le_refl _) (.cells #[.slice Av P.nv cv, .slice Ax P.nx cx, .slice As P.ns cs, .slice Ap P.np cp, .slice Ab P.nb cb, .int .i64 P.fuel] 37)
  obtain ⟨w1, hw1⟩ : ∃ w1, w1 = w.alloc (.cells #[.slice Av P.nv cv, .slice Ax P.nx cx, .slice As P.ns cs, .slice Ap P.np cp, .slice Ab P.nb cb, .int .i64 P.fuel] 37) := ⟨_, rfl⟩
  have hz1 : w1.heap.size = w.heap.size + 1 := by rw [hw1]; simp
  rw [← hw1] at hP0 hB0
  have H1 := h.below hB0 (Nat.le_refl _)
  obtain ⟨b, off, A3, c3, A4, c4, A5, c5, rfl, hb, r0, r1, r2, r3, r4, r5, r6, r7, g3, g4, g5⟩ := H1.s.at_ hi
  have hQ := Box.new w1 77 #[.int .i64 (P.st i).kind, .int .i64 (P.st i).var, .int .i64 (P.st i).ex, .slice A3 (P.st i).nc c3, .slice A4 (P.st i).nt c4, .slice A5 (P.st i).ne c5, .int .i64 (P.st i).times, .int .i64 (P.st i).proc]
  have hal := (Below.refl w1.heap.size w1).alloc (Nat.le_refl _) (.cells #[.int .i64 (P.st i).kind, .int .i64 (P.st i).var, .int .i64 (P.st i).ex, .slice A3 (P.st i).nc c3, .slice A4 (P.st i).nt c4, .slice A5 (P.st i).ne c5, .int .i64 (P.st i).times, .int .i64 (P.st i).proc] 77)
  have hP := hP0.alloc (.cells #[.int .i64 (P.st i).kind, .int .i64 (P.st i).var, .int .i64 (P.st i).ex, .slice A3 (P.st i).nc c3, .slice A4 (P.st i).nt c4, .slice A5 (P.st i).ne c5, .int .i64 (P.st i).times, .int .i64 (P.st i).proc] 77)
  obtain ⟨W, hW⟩ : ∃ W, W = w1.alloc (.cells #[.int .i64 (P.st i).kind, .int .i64 (P.st i).var, .int .i64 (P.st i).ex, .slice A3 (P.st i).nc c3, .slice A4 (P.st i).nt c4, .slice A5 (P.st i).ne c5, .int .i64 (P.st i).times, .int .i64 (P.st i).proc] 77) := ⟨_, rfl⟩
  rw [← hW] at hQ hal hP
  rw [hz1] at hQ
  have hB := hB0.trans (hal.mono hB0.size)
  have hsm := hs.st i hi
  have k3 := g3.below hal (Nat.le_refl _)
  have k4 := g4.below hal (Nat.le_refl _)
  have k5 := g5.below hal (Nat.le_refl _)
  have hus : Stm.small ⟨(P.st i).kind, 0, (P.st i).ex, 0, (P.st i).ch, (P.st i).nt, (P.st i).th, (P.st i).ne, (P.st i).el, 0, 0⟩ := ⟨by show 0 ≤ 1048576; omega, hsm.nt, hsm.ne⟩
  have CU : Hid (∀ W', _) := Lib.hid fun W' => usedIf_any (P.st i) A3 A4 A5 c3 c4 c5 W' hk
  have CQ : Hid (∀ W', Below W.heap.size W W' → _) := Lib.hid fun W' hW' => eqStmts_any lo lo (P.st i) ⟨(P.st i).kind, 0, (P.st i).ex, 0, (P.st i).ch, (P.st i).nt, (P.st i).th, (P.st i).ne, (P.st i).el, 0, 0⟩ A3 A4 A5 none A4 A5 c3 c4 c5 0 c4 c5 W' hsm hus (k3.below hW' (Nat.le_refl _)) (k4.below hW' (Nat.le_refl _)) (k5.below hW' (Nat.le_refl _)) (fun h => absurd h (Nat.lt_irrefl 0)) (k4.below hW' (Nat.le_refl _)) (k5.below hW' (Nat.le_refl _))
  have CT : Hid (∀ W', Below W.heap.size W W' → _) := Lib.hid fun W' hW' => after_any lo A4 (P.st i).nt c4 i (P.st i).th W' hsm.nt (k4.below hW' (Nat.le_refl _))
  have CE : Hid (∀ W', Below W.heap.size W W' → _) := Lib.hid fun W' hW' => after_any lo A5 (P.st i).ne c5 i (P.st i).el W' hsm.ne (k5.below hW' (Nat.le_refl _))
  have HE := Lib.hid (stEqIf hk)
  have t1 : ((P.st i).kind == 1) = false := by rw [hk]; rfl
  have t2 : ((P.st i).kind == 2) = false := by rw [hk]; rfl
  have t3 : ((P.st i).kind == 3) = false := by rw [hk]; rfl
  have t4 : ((P.st i).kind == 4) = false := by rw [hk]; rfl
  have t5 : ((P.st i).kind == 5) = true := by rw [hk]; rfl
  have hil : (i : Int) < (P.ns : Int) := by omega
  clear hk h H1 g3 g4 g5 k3 k4 k5 hsm hus hs _hV hP0 hB0
  rw [hw1] at r0 r1 r2 r3 r4 r5 r6 r7 hW
  go_enter Tryz.func49, Tryz.ntmps49
  go_upto_region 2 with fail
  rw [← hW]
  clear hW r0 r1 r2 r3 r4 r5 r6 r7 hil hal
  obtain ⟨q0, q1, q2, q3, q4, q5, q6, q7, qf⟩ := hQ.eight
  have hql := hQ.lt
  refine wp_region_held_drew (S := (fun w' => w'.cell? ⟨w.heap.size + 1, 0, none⟩ = some (.int .i64 (P.st i).kind) ∧ w'.cell? ⟨w.heap.size + 1, 1, none⟩ = some (.int .i64 (P.st i).var) ∧ w'.cell? ⟨w.heap.size + 1, 2, none⟩ = some (.int .i64 (P.st i).ex) ∧ w'.cell? ⟨w.heap.size + 1, 3, none⟩ = some (.slice A3 (P.st i).nc c3) ∧ w'.cell? ⟨w.heap.size + 1, 4, none⟩ = some (.slice A4 (P.st i).nt c4) ∧ w'.cell? ⟨w.heap.size + 1, 5, none⟩ = some (.slice A5 (P.st i).ne c5) ∧ w'.cell? ⟨w.heap.size + 1, 6, none⟩ = some (.int .i64 (P.st i).times) ∧ w'.cell? ⟨w.heap.size + 1, 7, none⟩ = some (.int .i64 (P.st i).proc) ∧ Below W.heap.size W w')) (by kernel_rfl) ?_ (fun hHeld => ?_)
  · (try dsimp only); (suffices hBB : Below W.heap.size W _ from ⟨(hBB.cell hql).trans q0, (hBB.cell hql).trans q1, (hBB.cell hql).trans q2, (hBB.cell hql).trans q3, (hBB.cell hql).trans q4, (hBB.cell hql).trans q5, (hBB.cell hql).trans q6, (hBB.cell hql).trans q7, hBB⟩; first | exact (Below.refl _ W).drew | exact held8b (by assumption) | (refine stepB (held8b (by assumption)) ?_; assumption))
  refine wpAnyH_take (i := 0) (v := .agg #[.int .i64 (P.st i).kind, .int .i64 (P.st i).var, .int .i64 (P.st i).ex, .slice A3 (P.st i).nc c3, .slice A4 (P.st i).nt c4, .slice A5 (P.st i).ne c5, .int .i64 (P.st i).times, .int .i64 (P.st i).proc]) rfl (by kernel_rfl) (by kernel_rfl) (by kernel_rfl) (fun _ _ _ h => h) (Or.inl ⟨by rfl, ?_⟩) (by assumption) ?_
  · intro w' hSw; (try dsimp only at hSw); go_simp
  (try simp only [Act.put, List.getElem_toArray, List.getElem_cons_zero, List.setIfInBounds_toArray, List.set_cons_zero, List.set_cons_succ])
  refine wpAnyH_take (i := 1) (v := .agg #[.int .i64 (P.st i).kind, .int .i64 (P.st i).var, .int .i64 (P.st i).ex, .slice A3 (P.st i).nc c3, .slice A4 (P.st i).nt c4, .slice A5 (P.st i).ne c5, .int .i64 (P.st i).times, .int .i64 (P.st i).proc]) rfl (by kernel_rfl) (by kernel_rfl) (by kernel_rfl) (fun _ _ _ h => h) (Or.inl ⟨by rfl, ?_⟩) (by assumption) ?_
  · intro w' hSw; (try dsimp only at hSw); go_simp
  (try simp only [Act.put, List.getElem_toArray, List.getElem_cons_zero, List.getElem_cons_succ, List.setIfInBounds_toArray, List.set_cons_zero, List.set_cons_succ])
  refine wpAnyH_ready (rs := [2]) (by kernel_rfl) (by simp) ?_
  refine AllReadyH.cons rfl (fun K hK => ?_) AllReadyH.nil
  go_simp
  go_wp2_with (go_at_call 68; refine (CU.out _).mono ?_; rintro e w2 ⟨rfl, hb2⟩)
  refine hK.out _ _ ?_ (fun hHeld => ?_)
  · (try dsimp only); (suffices hBB : Below W.heap.size W _ from ⟨(hBB.cell hql).trans q0, (hBB.cell hql).trans q1, (hBB.cell hql).trans q2, (hBB.cell hql).trans q3, (hBB.cell hql).trans q4, (hBB.cell hql).trans q5, (hBB.cell hql).trans q6, (hBB.cell hql).trans q7, hBB⟩; first | exact (Below.refl _ W).drew | exact held8b (by assumption) | (refine stepB (held8b (by assumption)) ?_; assumption))
  clear hK K
  (try simp only [Act.put, List.getElem_toArray, List.getElem_cons_zero, List.getElem_cons_succ, List.setIfInBounds_toArray, List.set_cons_zero, List.set_cons_succ])
  refine wpAnyH_ready (rs := [3]) (by kernel_rfl) (by simp) ?_
  refine AllReadyH.cons rfl (fun K hK => ?_) AllReadyH.nil
  go_simp
  go_wp2_with (go_at_call 67; refine (CQ.out _ (held8b (by assumption))).mono ?_; rintro e w3 ⟨r, rfl, hr, hb3⟩)
  refine hK.out _ _ ?_ (fun hHeld => ?_)
  · (try dsimp only); (suffices hBB : Below W.heap.size W _ from ⟨(hBB.cell hql).trans q0, (hBB.cell hql).trans q1, (hBB.cell hql).trans q2, (hBB.cell hql).trans q3, (hBB.cell hql).trans q4, (hBB.cell hql).trans q5, (hBB.cell hql).trans q6, (hBB.cell hql).trans q7, hBB⟩; first | exact (Below.refl _ W).drew | exact held8b (by assumption) | (refine stepB (held8b (by assumption)) ?_; assumption))
  clear hK K
  (try simp only [Act.put, List.getElem_toArray, List.getElem_cons_zero, List.getElem_cons_succ, List.setIfInBounds_toArray, List.set_cons_zero, List.set_cons_succ])
  cases r with
  | false =>
    refine wpAnyH_take (i := 4) (v := .bool true) rfl (by kernel_rfl) (by kernel_rfl) (by kernel_rfl) (fun _ _ _ h => h) (Or.inl ⟨by rfl, ?_⟩) (by assumption) ?_
    · intro w' hSw; (try dsimp only at hSw); go_simp
    (try simp only [Act.put, List.getElem_toArray, List.getElem_cons_zero, List.getElem_cons_succ, List.setIfInBounds_toArray, List.set_cons_zero, List.set_cons_succ])
    refine wpAnyH_take (i := 5) (v := .bool true) rfl (by kernel_rfl) (by kernel_rfl) (by kernel_rfl) (fun _ _ _ h => h) (Or.inl ⟨by rfl, ?_⟩) (by assumption) ?_
    · intro w' hSw; (try dsimp only at hSw); go_simp
    (try simp only [Act.put, List.getElem_toArray, List.getElem_cons_zero, List.getElem_cons_succ, List.setIfInBounds_toArray, List.set_cons_zero, List.set_cons_succ])
    refine wpAnyH_take (i := 6) (v := undef) rfl (by kernel_rfl) (by kernel_rfl) (by kernel_rfl) (fun _ _ _ h => h) (Or.inr ⟨by simp [Region.wanted, yielded], rfl⟩) (by assumption) ?_
    (try simp only [Act.put, List.getElem_toArray, List.getElem_cons_zero, List.getElem_cons_succ, List.setIfInBounds_toArray, List.set_cons_zero, List.set_cons_succ])
    refine wpAnyH_take (i := 7) (v := undef) rfl (by kernel_rfl) (by kernel_rfl) (by kernel_rfl) (fun _ _ _ h => h) (Or.inr ⟨by simp [Region.wanted, yielded], rfl⟩) (by assumption) ?_
    (try simp only [Act.put, List.getElem_toArray, List.getElem_cons_zero, List.getElem_cons_succ, List.setIfInBounds_toArray, List.set_cons_zero, List.set_cons_succ])
    refine wpAnyH_take (i := 8) (v := undef) rfl (by kernel_rfl) (by kernel_rfl) (by kernel_rfl) (fun _ _ _ h => h) (Or.inr ⟨by simp [Region.wanted, yielded], rfl⟩) (by assumption) ?_
    (try simp only [Act.put, List.getElem_toArray, List.getElem_cons_zero, List.getElem_cons_succ, List.setIfInBounds_toArray, List.set_cons_zero, List.set_cons_succ])
    refine wpAnyH_take (i := 9) (v := undef) rfl (by kernel_rfl) (by kernel_rfl) (by kernel_rfl) (fun _ _ _ h => h) (Or.inr ⟨by simp [Region.wanted, yielded], rfl⟩) (by assumption) ?_
    (try simp only [Act.put, List.getElem_toArray, List.getElem_cons_zero, List.getElem_cons_succ, List.setIfInBounds_toArray, List.set_cons_zero, List.set_cons_succ])
    refine wpAnyH_take (i := 10) (v := undef) rfl (by kernel_rfl) (by kernel_rfl) (by kernel_rfl) (fun _ _ _ h => h) (Or.inr ⟨by simp [Region.wanted, yielded], rfl⟩) (by assumption) ?_
    (try simp only [Act.put, List.getElem_toArray, List.getElem_cons_zero, List.getElem_cons_succ, List.setIfInBounds_toArray, List.set_cons_zero, List.set_cons_succ])
    refine wpAnyH_take (i := 11) (v := .bool true) rfl (by kernel_rfl) (by kernel_rfl) (by kernel_rfl) (fun _ _ _ h => h) (Or.inl ⟨by rfl, ?_⟩) (by assumption) ?_
    · intro w' hSw; (try dsimp only at hSw); go_simp
    (try simp only [Act.put, List.getElem_toArray, List.getElem_cons_zero, List.getElem_cons_succ, List.setIfInBounds_toArray, List.set_cons_zero, List.set_cons_succ])
    refine wpAnyH_take (i := 12) (v := .bool true) rfl (by kernel_rfl) (by kernel_rfl) (by kernel_rfl) (fun _ _ _ h => h) (Or.inl ⟨by rfl, ?_⟩) (by assumption) ?_
    · intro w' hSw; (try dsimp only at hSw); go_simp
    (try simp only [Act.put, List.getElem_toArray, List.getElem_cons_zero, List.getElem_cons_succ, List.setIfInBounds_toArray, List.set_cons_zero, List.set_cons_succ])
    refine wpAnyH_take (i := 13) (v := undef) rfl (by kernel_rfl) (by kernel_rfl) (by kernel_rfl) (fun _ _ _ h => h) (Or.inr ⟨by simp [Region.wanted, yielded], rfl⟩) (by assumption) ?_
    (try simp only [Act.put, List.getElem_toArray, List.getElem_cons_zero, List.getElem_cons_succ, List.setIfInBounds_toArray, List.set_cons_zero, List.set_cons_succ])
    refine wpAnyH_take (i := 14) (v := undef) rfl (by kernel_rfl) (by kernel_rfl) (by kernel_rfl) (fun _ _ _ h => h) (Or.inr ⟨by simp [Region.wanted, yielded], rfl⟩) (by assumption) ?_
    (try simp only [Act.put, List.getElem_toArray, List.getElem_cons_zero, List.getElem_cons_succ, List.setIfInBounds_toArray, List.set_cons_zero, List.set_cons_succ])
    refine wpAnyH_take (i := 15) (v := undef) rfl (by kernel_rfl) (by kernel_rfl) (by kernel_rfl) (fun _ _ _ h => h) (Or.inr ⟨by simp [Region.wanted, yielded], rfl⟩) (by assumption) ?_
    (try simp only [Act.put, List.getElem_toArray, List.getElem_cons_zero, List.getElem_cons_succ, List.setIfInBounds_toArray, List.set_cons_zero, List.set_cons_succ])
    refine wpAnyH_take (i := 16) (v := undef) rfl (by kernel_rfl) (by kernel_rfl) (by kernel_rfl) (fun _ _ _ h => h) (Or.inr ⟨by simp [Region.wanted, yielded], rfl⟩) (by assumption) ?_
    (try simp only [Act.put, List.getElem_toArray, List.getElem_cons_zero, List.getElem_cons_succ, List.setIfInBounds_toArray, List.set_cons_zero, List.set_cons_succ])
    refine wpAnyH_take (i := 17) (v := undef) rfl (by kernel_rfl) (by kernel_rfl) (by kernel_rfl) (fun _ _ _ h => h) (Or.inr ⟨by simp [Region.wanted, yielded], rfl⟩) (by assumption) ?_
    (try simp only [Act.put, List.getElem_toArray, List.getElem_cons_zero, List.getElem_cons_succ, List.setIfInBounds_toArray, List.set_cons_zero, List.set_cons_succ])
    refine wpAnyH_take (i := 18) (v := .bool true) rfl (by kernel_rfl) (by kernel_rfl) (by kernel_rfl) (fun _ _ _ h => h) (Or.inl ⟨by rfl, ?_⟩) (by assumption) ?_
    · intro w' hSw; (try dsimp only at hSw); go_simp
    (try simp only [Act.put, List.getElem_toArray, List.getElem_cons_zero, List.getElem_cons_succ, List.setIfInBounds_toArray, List.set_cons_zero, List.set_cons_succ])
    refine wpAnyH_done (by kernel_rfl) ?_ _
    go_wp2_with fail
    go_ret
    exact Yn.no (fun h => by have h1 := hr.out.2 (HE.out.2 h.1.2); cases h1) (hB.trans ((held8b (by assumption)).mono hB.size))
  | true =>
    have HU := Lib.hid (HE.out.1 (hr.out.1 rfl))
    refine wpAnyH_take (i := 4) (v := .bool false) rfl (by kernel_rfl) (by kernel_rfl) (by kernel_rfl) (fun _ _ _ h => h) (Or.inl ⟨by rfl, ?_⟩) (by assumption) ?_
    · intro w' hSw; (try dsimp only at hSw); go_simp
    (try simp only [Act.put, List.getElem_toArray, List.getElem_cons_zero, List.getElem_cons_succ, List.setIfInBounds_toArray, List.set_cons_zero, List.set_cons_succ])
    refine wpAnyH_take (i := 5) (v := .bool false) rfl (by kernel_rfl) (by kernel_rfl) (by kernel_rfl) (fun _ _ _ h => h) (Or.inl ⟨by rfl, ?_⟩) (by assumption) ?_
    · intro w' hSw; (try dsimp only at hSw); go_simp
    (try simp only [Act.put, List.getElem_toArray, List.getElem_cons_zero, List.getElem_cons_succ, List.setIfInBounds_toArray, List.set_cons_zero, List.set_cons_succ])
    refine wpAnyH_take (i := 6) (v := .int .i64 (i : Nat)) rfl (by kernel_rfl) (by kernel_rfl) (by kernel_rfl) (fun _ _ _ h => h) (Or.inl ⟨by rfl, ?_⟩) (by assumption) ?_
    · intro w' hSw; (try dsimp only at hSw); go_simp
    (try simp only [Act.put, List.getElem_toArray, List.getElem_cons_zero, List.getElem_cons_succ, List.setIfInBounds_toArray, List.set_cons_zero, List.set_cons_succ])
    refine wpAnyH_take (i := 7) (v := .pointer (some ⟨w.heap.size + 1, 4, none⟩)) rfl (by kernel_rfl) (by kernel_rfl) (by kernel_rfl) (fun _ _ _ h => h) (Or.inl ⟨by rfl, ?_⟩) (by assumption) ?_
    · intro w' hSw; (try dsimp only at hSw); go_simp
    (try simp only [Act.put, List.getElem_toArray, List.getElem_cons_zero, List.getElem_cons_succ, List.setIfInBounds_toArray, List.set_cons_zero, List.set_cons_succ])
    refine wpAnyH_take (i := 8) (v := .slice A4 (P.st i).nt c4) rfl (by kernel_rfl) (by kernel_rfl) (by kernel_rfl) (fun _ _ _ h => h) (Or.inl ⟨by rfl, ?_⟩) (by assumption) ?_
    · intro w' hSw; (try dsimp only at hSw); go_simp
    (try simp only [Act.put, List.getElem_toArray, List.getElem_cons_zero, List.getElem_cons_succ, List.setIfInBounds_toArray, List.set_cons_zero, List.set_cons_succ])
    refine wpAnyH_ready (rs := [9]) (by kernel_rfl) (by simp) ?_
    refine AllReadyH.cons rfl (fun K hK => ?_) AllReadyH.nil
    go_simp
    go_wp2_with (go_at_call 69; refine (CT.out _ (held8b (by assumption))).mono ?_; rintro e w4 ⟨r4, rfl, hr4, hb4⟩)
    refine hK.out _ _ ?_ (fun hHeld => ?_)
    · (try dsimp only); (suffices hBB : Below W.heap.size W _ from ⟨(hBB.cell hql).trans q0, (hBB.cell hql).trans q1, (hBB.cell hql).trans q2, (hBB.cell hql).trans q3, (hBB.cell hql).trans q4, (hBB.cell hql).trans q5, (hBB.cell hql).trans q6, (hBB.cell hql).trans q7, hBB⟩; first | exact (Below.refl _ W).drew | exact held8b (by assumption) | (refine stepB (held8b (by assumption)) ?_; assumption))
    clear hK K
    (try simp only [Act.put, List.getElem_toArray, List.getElem_cons_zero, List.getElem_cons_succ, List.setIfInBounds_toArray, List.set_cons_zero, List.set_cons_succ])
    cases r4 with
    | false =>
      refine wpAnyH_take (i := 10) (v := .bool true) rfl (by kernel_rfl) (by kernel_rfl) (by kernel_rfl) (fun _ _ _ h => h) (Or.inl ⟨by rfl, ?_⟩) (by assumption) ?_
      · intro w' hSw; (try dsimp only at hSw); go_simp
      (try simp only [Act.put, List.getElem_toArray, List.getElem_cons_zero, List.getElem_cons_succ, List.setIfInBounds_toArray, List.set_cons_zero, List.set_cons_succ])
      refine wpAnyH_take (i := 11) (v := .bool true) rfl (by kernel_rfl) (by kernel_rfl) (by kernel_rfl) (fun _ _ _ h => h) (Or.inl ⟨by rfl, ?_⟩) (by assumption) ?_
      · intro w' hSw; (try dsimp only at hSw); go_simp
      (try simp only [Act.put, List.getElem_toArray, List.getElem_cons_zero, List.getElem_cons_succ, List.setIfInBounds_toArray, List.set_cons_zero, List.set_cons_succ])
      refine wpAnyH_take (i := 12) (v := .bool true) rfl (by kernel_rfl) (by kernel_rfl) (by kernel_rfl) (fun _ _ _ h => h) (Or.inl ⟨by rfl, ?_⟩) (by assumption) ?_
      · intro w' hSw; (try dsimp only at hSw); go_simp
      (try simp only [Act.put, List.getElem_toArray, List.getElem_cons_zero, List.getElem_cons_succ, List.setIfInBounds_toArray, List.set_cons_zero, List.set_cons_succ])
      refine wpAnyH_take (i := 13) (v := undef) rfl (by kernel_rfl) (by kernel_rfl) (by kernel_rfl) (fun _ _ _ h => h) (Or.inr ⟨by simp [Region.wanted, yielded], rfl⟩) (by assumption) ?_
      (try simp only [Act.put, List.getElem_toArray, List.getElem_cons_zero, List.getElem_cons_succ, List.setIfInBounds_toArray, List.set_cons_zero, List.set_cons_succ])
      refine wpAnyH_take (i := 14) (v := undef) rfl (by kernel_rfl) (by kernel_rfl) (by kernel_rfl) (fun _ _ _ h => h) (Or.inr ⟨by simp [Region.wanted, yielded], rfl⟩) (by assumption) ?_
      (try simp only [Act.put, List.getElem_toArray, List.getElem_cons_zero, List.getElem_cons_succ, List.setIfInBounds_toArray, List.set_cons_zero, List.set_cons_succ])
      refine wpAnyH_take (i := 15) (v := undef) rfl (by kernel_rfl) (by kernel_rfl) (by kernel_rfl) (fun _ _ _ h => h) (Or.inr ⟨by simp [Region.wanted, yielded], rfl⟩) (by assumption) ?_
      (try simp only [Act.put, List.getElem_toArray, List.getElem_cons_zero, List.getElem_cons_succ, List.setIfInBounds_toArray, List.set_cons_zero, List.set_cons_succ])
      refine wpAnyH_take (i := 16) (v := undef) rfl (by kernel_rfl) (by kernel_rfl) (by kernel_rfl) (fun _ _ _ h => h) (Or.inr ⟨by simp [Region.wanted, yielded], rfl⟩) (by assumption) ?_
      (try simp only [Act.put, List.getElem_toArray, List.getElem_cons_zero, List.getElem_cons_succ, List.setIfInBounds_toArray, List.set_cons_zero, List.set_cons_succ])
      refine wpAnyH_take (i := 17) (v := undef) rfl (by kernel_rfl) (by kernel_rfl) (by kernel_rfl) (fun _ _ _ h => h) (Or.inr ⟨by simp [Region.wanted, yielded], rfl⟩) (by assumption) ?_
      (try simp only [Act.put, List.getElem_toArray, List.getElem_cons_zero, List.getElem_cons_succ, List.setIfInBounds_toArray, List.set_cons_zero, List.set_cons_succ])
      refine wpAnyH_take (i := 18) (v := .bool true) rfl (by kernel_rfl) (by kernel_rfl) (by kernel_rfl) (fun _ _ _ h => h) (Or.inl ⟨by rfl, ?_⟩) (by assumption) ?_
      · intro w' hSw; (try dsimp only at hSw); go_simp
      (try simp only [Act.put, List.getElem_toArray, List.getElem_cons_zero, List.getElem_cons_succ, List.setIfInBounds_toArray, List.set_cons_zero, List.set_cons_succ])
      refine wpAnyH_done (by kernel_rfl) ?_ _
      go_wp2_with fail
      go_ret
      exact Yn.no (fun h => by have h1 := hr4.out.2 h.2.1; cases h1) (hB.trans ((held8b (by assumption)).mono hB.size))
    | true =>
      have HA4 := Lib.hid (hr4.out.1 rfl)
      refine wpAnyH_take (i := 10) (v := .bool false) rfl (by kernel_rfl) (by kernel_rfl) (by kernel_rfl) (fun _ _ _ h => h) (Or.inl ⟨by rfl, ?_⟩) (by assumption) ?_
      · intro w' hSw; (try dsimp only at hSw); go_simp
      (try simp only [Act.put, List.getElem_toArray, List.getElem_cons_zero, List.getElem_cons_succ, List.setIfInBounds_toArray, List.set_cons_zero, List.set_cons_succ])
      refine wpAnyH_take (i := 11) (v := .bool false) rfl (by kernel_rfl) (by kernel_rfl) (by kernel_rfl) (fun _ _ _ h => h) (Or.inl ⟨by rfl, ?_⟩) (by assumption) ?_
      · intro w' hSw; (try dsimp only at hSw); go_simp
      (try simp only [Act.put, List.getElem_toArray, List.getElem_cons_zero, List.getElem_cons_succ, List.setIfInBounds_toArray, List.set_cons_zero, List.set_cons_succ])
      refine wpAnyH_take (i := 12) (v := .bool false) rfl (by kernel_rfl) (by kernel_rfl) (by kernel_rfl) (fun _ _ _ h => h) (Or.inl ⟨by rfl, ?_⟩) (by assumption) ?_
      · intro w' hSw; (try dsimp only at hSw); go_simp
      (try simp only [Act.put, List.getElem_toArray, List.getElem_cons_zero, List.getElem_cons_succ, List.setIfInBounds_toArray, List.set_cons_zero, List.set_cons_succ])
      refine wpAnyH_take (i := 13) (v := .int .i64 (i : Nat)) rfl (by kernel_rfl) (by kernel_rfl) (by kernel_rfl) (fun _ _ _ h => h) (Or.inl ⟨by rfl, ?_⟩) (by assumption) ?_
      · intro w' hSw; (try dsimp only at hSw); go_simp
      (try simp only [Act.put, List.getElem_toArray, List.getElem_cons_zero, List.getElem_cons_succ, List.setIfInBounds_toArray, List.set_cons_zero, List.set_cons_succ])
      refine wpAnyH_take (i := 14) (v := .pointer (some ⟨w.heap.size + 1, 5, none⟩)) rfl (by kernel_rfl) (by kernel_rfl) (by kernel_rfl) (fun _ _ _ h => h) (Or.inl ⟨by rfl, ?_⟩) (by assumption) ?_
      · intro w' hSw; (try dsimp only at hSw); go_simp
      (try simp only [Act.put, List.getElem_toArray, List.getElem_cons_zero, List.getElem_cons_succ, List.setIfInBounds_toArray, List.set_cons_zero, List.set_cons_succ])
      refine wpAnyH_take (i := 15) (v := .slice A5 (P.st i).ne c5) rfl (by kernel_rfl) (by kernel_rfl) (by kernel_rfl) (fun _ _ _ h => h) (Or.inl ⟨by rfl, ?_⟩) (by assumption) ?_
      · intro w' hSw; (try dsimp only at hSw); go_simp
      (try simp only [Act.put, List.getElem_toArray, List.getElem_cons_zero, List.getElem_cons_succ, List.setIfInBounds_toArray, List.set_cons_zero, List.set_cons_succ])
      refine wpAnyH_ready (rs := [16]) (by kernel_rfl) (by simp) ?_
      refine AllReadyH.cons rfl (fun K hK => ?_) AllReadyH.nil
      go_simp
      go_wp2_with (go_at_call 69; refine (CE.out _ (held8b (by assumption))).mono ?_; rintro e w5 ⟨r5, rfl, hr5, hb5⟩)
      refine hK.out _ _ ?_ (fun hHeld => ?_)
      · (try dsimp only); (suffices hBB : Below W.heap.size W _ from ⟨(hBB.cell hql).trans q0, (hBB.cell hql).trans q1, (hBB.cell hql).trans q2, (hBB.cell hql).trans q3, (hBB.cell hql).trans q4, (hBB.cell hql).trans q5, (hBB.cell hql).trans q6, (hBB.cell hql).trans q7, hBB⟩; first | exact (Below.refl _ W).drew | exact held8b (by assumption) | (refine stepB (held8b (by assumption)) ?_; assumption))
      clear hK K
      (try simp only [Act.put, List.getElem_toArray, List.getElem_cons_zero, List.getElem_cons_succ, List.setIfInBounds_toArray, List.set_cons_zero, List.set_cons_succ])
      cases r5 with
      | false =>
        refine wpAnyH_take (i := 17) (v := .bool true) rfl (by kernel_rfl) (by kernel_rfl) (by kernel_rfl) (fun _ _ _ h => h) (Or.inl ⟨by rfl, ?_⟩) (by assumption) ?_
        · intro w' hSw; (try dsimp only at hSw); go_simp
        (try simp only [Act.put, List.getElem_toArray, List.getElem_cons_zero, List.getElem_cons_succ, List.setIfInBounds_toArray, List.set_cons_zero, List.set_cons_succ])
        refine wpAnyH_take (i := 18) (v := .bool true) rfl (by kernel_rfl) (by kernel_rfl) (by kernel_rfl) (fun _ _ _ h => h) (Or.inl ⟨by rfl, ?_⟩) (by assumption) ?_
        · intro w' hSw; (try dsimp only at hSw); go_simp
        (try simp only [Act.put, List.getElem_toArray, List.getElem_cons_zero, List.getElem_cons_succ, List.setIfInBounds_toArray, List.set_cons_zero, List.set_cons_succ])
        refine wpAnyH_done (by kernel_rfl) ?_ _
        go_wp2_with fail
        go_ret
        exact Yn.no (fun h => by have h1 := hr5.out.2 h.2.2; cases h1) (hB.trans ((held8b (by assumption)).mono hB.size))
      | true =>
        have HA5 := Lib.hid (hr5.out.1 rfl)
        refine wpAnyH_take (i := 17) (v := .bool false) rfl (by kernel_rfl) (by kernel_rfl) (by kernel_rfl) (fun _ _ _ h => h) (Or.inl ⟨by rfl, ?_⟩) (by assumption) ?_
        · intro w' hSw; (try dsimp only at hSw); go_simp
        (try simp only [Act.put, List.getElem_toArray, List.getElem_cons_zero, List.getElem_cons_succ, List.setIfInBounds_toArray, List.set_cons_zero, List.set_cons_succ])
        refine wpAnyH_take (i := 18) (v := .bool false) rfl (by kernel_rfl) (by kernel_rfl) (by kernel_rfl) (fun _ _ _ h => h) (Or.inl ⟨by rfl, ?_⟩) (by assumption) ?_
        · intro w' hSw; (try dsimp only at hSw); go_simp
        (try simp only [Act.put, List.getElem_toArray, List.getElem_cons_zero, List.getElem_cons_succ, List.setIfInBounds_toArray, List.set_cons_zero, List.set_cons_succ])
        refine wpAnyH_done (by kernel_rfl) ?_ _
        have hb := held8b (by assumption)
        have hP := hP.below hb hP.lt
        have hQ := hQ.below hb hQ.lt
        have hB := hB.trans (hb.mono hB.size)
        clear hHeld q0 q1 q2 q3 q4 q5 q6 q7 qf
        obtain ⟨q0, q1, q2, q3, q4, q5, q6, q7, qf⟩ := hQ.eight
        obtain ⟨p0, p1, p2, p3, p4, p5, pf⟩ := hP.six
        obtain ⟨be, hbe⟩ : ∃ b, b = decide (0 ≤ (P.st i).ex ∧ (P.st i).ex < (P.nx : Int)) := ⟨_, rfl⟩
        have Ce : Hid (∀ W, Calls Tryz.prog 24 #[.int .i64 (P.st i).ex, .int .i64 (P.nx : Nat)] W fun e w' => e = .returned (.bool be) ∧ W = w') := Lib.hid fun W => by rw [hbe]; exact idx_any _ _ W
        have He : Hid (be = true ↔ (0 ≤ (P.st i).ex ∧ (P.st i).ex ≤ (P.nx : Int) - 1)) := Lib.hid (by rw [hbe, decide_eq_true_iff]; omega)
        clear hbe
        go_wp2_with (first | (go_at_call 24; with_reducible refine (Ce.out _).mono ?_; rintro e w' ⟨rfl, rfl⟩))
        go_ret
        exact ⟨be, rfl, Lib.hid ⟨fun h => ⟨⟨He.out.1 h, HU.out⟩, ⟨HA4.out, HA5.out⟩⟩, fun h => He.out.2 h.1.1⟩, hB⟩

theorem stEqRep {P : Prg} {i : Nat} (hk : (P.st i).kind = 6) : StEq (P.st i) ⟨(P.st i).kind, 0, 0, 0, (P.st i).ch, (P.st i).nt, (P.st i).th, 0, (P.st i).el, (P.st i).times, 0⟩ ↔ Uses (P.st i) false false true false true false := by
  simp only [StEq, Uses, LsEq]
  constructor
  · intro h
    simp_all
  · intro h
    simp_all

set_option maxRecDepth 100000 in
set_option maxHeartbeats 6400000 in
theorem implStRep_any (lo : Nat) (P : Prg) (i : Nat) (Av Ax As Ap Ab : Option Addr) (cv cx cs cp cb : Nat) (w : World) (hs : P.small) (_hV : VarsOk P) (hi : i < P.ns) (hk : (P.st i).kind = 6) (h : PgAt lo w Av Ax As Ap Ab P) :
    Calls Tryz.prog 49 #[.agg #[.slice Av P.nv cv, .slice Ax P.nx cx, .slice As P.ns cs, .slice Ap P.np cp, .slice Ab P.nb cb, .int .i64 P.fuel], .int .i64 (i : Nat)] w (Yn (((1 ≤ (P.st i).times ∧ (P.st i).times ≤ 4) ∧ Uses (P.st i) false false true false true false) ∧ AftOk P i) w) := by
  have hP0 := Box.new w 37 #[.slice Av P.nv cv, .slice Ax P.nx cx, .slice As P.ns cs, .slice Ap P.np cp, .slice Ab P.nb cb, .int .i64 P.fuel]
  have hB0 := (Below.refl w.heap.size w).alloc (Nat.le_refl _) (.cells #[.slice Av P.nv cv, .slice Ax P.nx cx, .slice As P.ns cs, .slice Ap P.np cp, .slice Ab P.nb cb, .int .i64 P.fuel] 37)
  obtain ⟨w1, hw1⟩ : ∃ w1, w1 = w.alloc (.cells #[.slice Av P.nv cv, .slice Ax P.nx cx, .slice As P.ns cs, .slice Ap P.np cp, .slice Ab P.nb cb, .int .i64 P.fuel] 37) := ⟨_, rfl⟩
  have hz1 : w1.heap.size = w.heap.size + 1 := by rw [hw1]; simp
  rw [← hw1] at hP0 hB0
  have H1 := h.below hB0 (Nat.le_refl _)
  obtain ⟨b, off, A3, c3, A4, c4, A5, c5, rfl, hb, r0, r1, r2, r3, r4, r5, r6, r7, g3, g4, g5⟩ := H1.s.at_ hi
  have hQ := Box.new w1 77 #[.int .i64 (P.st i).kind, .int .i64 (P.st i).var, .int .i64 (P.st i).ex, .slice A3 (P.st i).nc c3, .slice A4 (P.st i).nt c4, .slice A5 (P.st i).ne c5, .int .i64 (P.st i).times, .int .i64 (P.st i).proc]
  have hal := (Below.refl w1.heap.size w1).alloc (Nat.le_refl _) (.cells #[.int .i64 (P.st i).kind, .int .i64 (P.st i).var, .int .i64 (P.st i).ex, .slice A3 (P.st i).nc c3, .slice A4 (P.st i).nt c4, .slice A5 (P.st i).ne c5, .int .i64 (P.st i).times, .int .i64 (P.st i).proc] 77)
  have hP := hP0.alloc (.cells #[.int .i64 (P.st i).kind, .int .i64 (P.st i).var, .int .i64 (P.st i).ex, .slice A3 (P.st i).nc c3, .slice A4 (P.st i).nt c4, .slice A5 (P.st i).ne c5, .int .i64 (P.st i).times, .int .i64 (P.st i).proc] 77)
  obtain ⟨W, hW⟩ : ∃ W, W = w1.alloc (.cells #[.int .i64 (P.st i).kind, .int .i64 (P.st i).var, .int .i64 (P.st i).ex, .slice A3 (P.st i).nc c3, .slice A4 (P.st i).nt c4, .slice A5 (P.st i).ne c5, .int .i64 (P.st i).times, .int .i64 (P.st i).proc] 77) := ⟨_, rfl⟩
  rw [← hW] at hQ hal hP
  rw [hz1] at hQ
  have hB := hB0.trans (hal.mono hB0.size)
  have hsm := hs.st i hi
  have k3 := g3.below hal (Nat.le_refl _)
  have k4 := g4.below hal (Nat.le_refl _)
  have k5 := g5.below hal (Nat.le_refl _)
  have hus : Stm.small ⟨(P.st i).kind, 0, 0, 0, (P.st i).ch, (P.st i).nt, (P.st i).th, 0, (P.st i).el, (P.st i).times, 0⟩ := ⟨by show 0 ≤ 1048576; omega, hsm.nt, by show 0 ≤ 1048576; omega⟩
  have CU : Hid (∀ W', _) := Lib.hid fun W' => usedRep_any (P.st i) A3 A4 A5 c3 c4 c5 W' hk
  have CQ : Hid (∀ W', Below W.heap.size W W' → _) := Lib.hid fun W' hW' => eqStmts_any lo lo (P.st i) ⟨(P.st i).kind, 0, 0, 0, (P.st i).ch, (P.st i).nt, (P.st i).th, 0, (P.st i).el, (P.st i).times, 0⟩ A3 A4 A5 none A4 none c3 c4 c5 0 c4 0 W' hsm hus (k3.below hW' (Nat.le_refl _)) (k4.below hW' (Nat.le_refl _)) (k5.below hW' (Nat.le_refl _)) (fun h => absurd h (Nat.lt_irrefl 0)) (k4.below hW' (Nat.le_refl _)) (fun h => absurd h (Nat.lt_irrefl 0))
  have CT : Hid (∀ W', Below W.heap.size W W' → _) := Lib.hid fun W' hW' => after_any lo A4 (P.st i).nt c4 i (P.st i).th W' hsm.nt (k4.below hW' (Nat.le_refl _))
  have CE : Hid (∀ W', Below W.heap.size W W' → _) := Lib.hid fun W' hW' => after_any lo A5 (P.st i).ne c5 i (P.st i).el W' hsm.ne (k5.below hW' (Nat.le_refl _))
  have HE := Lib.hid (stEqRep hk)
  have t1 : ((P.st i).kind == 1) = false := by rw [hk]; rfl
  have t2 : ((P.st i).kind == 2) = false := by rw [hk]; rfl
  have t3 : ((P.st i).kind == 3) = false := by rw [hk]; rfl
  have t4 : ((P.st i).kind == 4) = false := by rw [hk]; rfl
  have t5 : ((P.st i).kind == 5) = false := by rw [hk]; rfl
  have t6 : ((P.st i).kind == 6) = true := by rw [hk]; rfl
  have hil : (i : Int) < (P.ns : Int) := by omega
  clear hk h H1 g3 g4 g5 k3 k4 k5 hsm hus hs _hV hP0 hB0
  rw [hw1] at r0 r1 r2 r3 r4 r5 r6 r7 hW
  go_enter Tryz.func49, Tryz.ntmps49
  go_upto_region 2 with fail
  rw [← hW]
  clear hW r0 r1 r2 r3 r4 r5 r6 r7 hil hal
  obtain ⟨q0, q1, q2, q3, q4, q5, q6, q7, qf⟩ := hQ.eight
  have hql := hQ.lt
  refine wp_region_held_drew (S := (fun w' => w'.cell? ⟨w.heap.size + 1, 0, none⟩ = some (.int .i64 (P.st i).kind) ∧ w'.cell? ⟨w.heap.size + 1, 1, none⟩ = some (.int .i64 (P.st i).var) ∧ w'.cell? ⟨w.heap.size + 1, 2, none⟩ = some (.int .i64 (P.st i).ex) ∧ w'.cell? ⟨w.heap.size + 1, 3, none⟩ = some (.slice A3 (P.st i).nc c3) ∧ w'.cell? ⟨w.heap.size + 1, 4, none⟩ = some (.slice A4 (P.st i).nt c4) ∧ w'.cell? ⟨w.heap.size + 1, 5, none⟩ = some (.slice A5 (P.st i).ne c5) ∧ w'.cell? ⟨w.heap.size + 1, 6, none⟩ = some (.int .i64 (P.st i).times) ∧ w'.cell? ⟨w.heap.size + 1, 7, none⟩ = some (.int .i64 (P.st i).proc) ∧ Below W.heap.size W w')) (by kernel_rfl) ?_ (fun hHeld => ?_)
  · (try dsimp only); (suffices hBB : Below W.heap.size W _ from ⟨(hBB.cell hql).trans q0, (hBB.cell hql).trans q1, (hBB.cell hql).trans q2, (hBB.cell hql).trans q3, (hBB.cell hql).trans q4, (hBB.cell hql).trans q5, (hBB.cell hql).trans q6, (hBB.cell hql).trans q7, hBB⟩; first | exact (Below.refl _ W).drew | exact held8b (by assumption) | (refine stepB (held8b (by assumption)) ?_; assumption))
  refine wpAnyH_take (i := 0) (v := .agg #[.int .i64 (P.st i).kind, .int .i64 (P.st i).var, .int .i64 (P.st i).ex, .slice A3 (P.st i).nc c3, .slice A4 (P.st i).nt c4, .slice A5 (P.st i).ne c5, .int .i64 (P.st i).times, .int .i64 (P.st i).proc]) rfl (by kernel_rfl) (by kernel_rfl) (by kernel_rfl) (fun _ _ _ h => h) (Or.inl ⟨by rfl, ?_⟩) (by assumption) ?_
  · intro w' hSw; (try dsimp only at hSw); go_simp
  (try simp only [Act.put, List.getElem_toArray, List.getElem_cons_zero, List.setIfInBounds_toArray, List.set_cons_zero, List.set_cons_succ])
  refine wpAnyH_take (i := 1) (v := .agg #[.int .i64 (P.st i).kind, .int .i64 (P.st i).var, .int .i64 (P.st i).ex, .slice A3 (P.st i).nc c3, .slice A4 (P.st i).nt c4, .slice A5 (P.st i).ne c5, .int .i64 (P.st i).times, .int .i64 (P.st i).proc]) rfl (by kernel_rfl) (by kernel_rfl) (by kernel_rfl) (fun _ _ _ h => h) (Or.inl ⟨by rfl, ?_⟩) (by assumption) ?_
  · intro w' hSw; (try dsimp only at hSw); go_simp
  (try simp only [Act.put, List.getElem_toArray, List.getElem_cons_zero, List.getElem_cons_succ, List.setIfInBounds_toArray, List.set_cons_zero, List.set_cons_succ])
  refine wpAnyH_ready (rs := [2]) (by kernel_rfl) (by simp) ?_
  refine AllReadyH.cons rfl (fun K hK => ?_) AllReadyH.nil
  go_simp
  go_wp2_with (go_at_call 68; refine (CU.out _).mono ?_; rintro e w2 ⟨rfl, hb2⟩)
  refine hK.out _ _ ?_ (fun hHeld => ?_)
  · (try dsimp only); (suffices hBB : Below W.heap.size W _ from ⟨(hBB.cell hql).trans q0, (hBB.cell hql).trans q1, (hBB.cell hql).trans q2, (hBB.cell hql).trans q3, (hBB.cell hql).trans q4, (hBB.cell hql).trans q5, (hBB.cell hql).trans q6, (hBB.cell hql).trans q7, hBB⟩; first | exact (Below.refl _ W).drew | exact held8b (by assumption) | (refine stepB (held8b (by assumption)) ?_; assumption))
  clear hK K
  (try simp only [Act.put, List.getElem_toArray, List.getElem_cons_zero, List.getElem_cons_succ, List.setIfInBounds_toArray, List.set_cons_zero, List.set_cons_succ])
  refine wpAnyH_ready (rs := [3]) (by kernel_rfl) (by simp) ?_
  refine AllReadyH.cons rfl (fun K hK => ?_) AllReadyH.nil
  go_simp
  go_wp2_with (go_at_call 67; refine (CQ.out _ (held8b (by assumption))).mono ?_; rintro e w3 ⟨r, rfl, hr, hb3⟩)
  refine hK.out _ _ ?_ (fun hHeld => ?_)
  · (try dsimp only); (suffices hBB : Below W.heap.size W _ from ⟨(hBB.cell hql).trans q0, (hBB.cell hql).trans q1, (hBB.cell hql).trans q2, (hBB.cell hql).trans q3, (hBB.cell hql).trans q4, (hBB.cell hql).trans q5, (hBB.cell hql).trans q6, (hBB.cell hql).trans q7, hBB⟩; first | exact (Below.refl _ W).drew | exact held8b (by assumption) | (refine stepB (held8b (by assumption)) ?_; assumption))
  clear hK K
  (try simp only [Act.put, List.getElem_toArray, List.getElem_cons_zero, List.getElem_cons_succ, List.setIfInBounds_toArray, List.set_cons_zero, List.set_cons_succ])
  cases r with
  | false =>
    refine wpAnyH_take (i := 4) (v := .bool true) rfl (by kernel_rfl) (by kernel_rfl) (by kernel_rfl) (fun _ _ _ h => h) (Or.inl ⟨by rfl, ?_⟩) (by assumption) ?_
    · intro w' hSw; (try dsimp only at hSw); go_simp
    (try simp only [Act.put, List.getElem_toArray, List.getElem_cons_zero, List.getElem_cons_succ, List.setIfInBounds_toArray, List.set_cons_zero, List.set_cons_succ])
    refine wpAnyH_take (i := 5) (v := .bool true) rfl (by kernel_rfl) (by kernel_rfl) (by kernel_rfl) (fun _ _ _ h => h) (Or.inl ⟨by rfl, ?_⟩) (by assumption) ?_
    · intro w' hSw; (try dsimp only at hSw); go_simp
    (try simp only [Act.put, List.getElem_toArray, List.getElem_cons_zero, List.getElem_cons_succ, List.setIfInBounds_toArray, List.set_cons_zero, List.set_cons_succ])
    refine wpAnyH_take (i := 6) (v := undef) rfl (by kernel_rfl) (by kernel_rfl) (by kernel_rfl) (fun _ _ _ h => h) (Or.inr ⟨by simp [Region.wanted, yielded], rfl⟩) (by assumption) ?_
    (try simp only [Act.put, List.getElem_toArray, List.getElem_cons_zero, List.getElem_cons_succ, List.setIfInBounds_toArray, List.set_cons_zero, List.set_cons_succ])
    refine wpAnyH_take (i := 7) (v := undef) rfl (by kernel_rfl) (by kernel_rfl) (by kernel_rfl) (fun _ _ _ h => h) (Or.inr ⟨by simp [Region.wanted, yielded], rfl⟩) (by assumption) ?_
    (try simp only [Act.put, List.getElem_toArray, List.getElem_cons_zero, List.getElem_cons_succ, List.setIfInBounds_toArray, List.set_cons_zero, List.set_cons_succ])
    refine wpAnyH_take (i := 8) (v := undef) rfl (by kernel_rfl) (by kernel_rfl) (by kernel_rfl) (fun _ _ _ h => h) (Or.inr ⟨by simp [Region.wanted, yielded], rfl⟩) (by assumption) ?_
    (try simp only [Act.put, List.getElem_toArray, List.getElem_cons_zero, List.getElem_cons_succ, List.setIfInBounds_toArray, List.set_cons_zero, List.set_cons_succ])
    refine wpAnyH_take (i := 9) (v := undef) rfl (by kernel_rfl) (by kernel_rfl) (by kernel_rfl) (fun _ _ _ h => h) (Or.inr ⟨by simp [Region.wanted, yielded], rfl⟩) (by assumption) ?_
    (try simp only [Act.put, List.getElem_toArray, List.getElem_cons_zero, List.getElem_cons_succ, List.setIfInBounds_toArray, List.set_cons_zero, List.set_cons_succ])
    refine wpAnyH_take (i := 10) (v := undef) rfl (by kernel_rfl) (by kernel_rfl) (by kernel_rfl) (fun _ _ _ h => h) (Or.inr ⟨by simp [Region.wanted, yielded], rfl⟩) (by assumption) ?_
    (try simp only [Act.put, List.getElem_toArray, List.getElem_cons_zero, List.getElem_cons_succ, List.setIfInBounds_toArray, List.set_cons_zero, List.set_cons_succ])
    refine wpAnyH_take (i := 11) (v := .bool true) rfl (by kernel_rfl) (by kernel_rfl) (by kernel_rfl) (fun _ _ _ h => h) (Or.inl ⟨by rfl, ?_⟩) (by assumption) ?_
    · intro w' hSw; (try dsimp only at hSw); go_simp
    (try simp only [Act.put, List.getElem_toArray, List.getElem_cons_zero, List.getElem_cons_succ, List.setIfInBounds_toArray, List.set_cons_zero, List.set_cons_succ])
    refine wpAnyH_take (i := 12) (v := .bool true) rfl (by kernel_rfl) (by kernel_rfl) (by kernel_rfl) (fun _ _ _ h => h) (Or.inl ⟨by rfl, ?_⟩) (by assumption) ?_
    · intro w' hSw; (try dsimp only at hSw); go_simp
    (try simp only [Act.put, List.getElem_toArray, List.getElem_cons_zero, List.getElem_cons_succ, List.setIfInBounds_toArray, List.set_cons_zero, List.set_cons_succ])
    refine wpAnyH_take (i := 13) (v := undef) rfl (by kernel_rfl) (by kernel_rfl) (by kernel_rfl) (fun _ _ _ h => h) (Or.inr ⟨by simp [Region.wanted, yielded], rfl⟩) (by assumption) ?_
    (try simp only [Act.put, List.getElem_toArray, List.getElem_cons_zero, List.getElem_cons_succ, List.setIfInBounds_toArray, List.set_cons_zero, List.set_cons_succ])
    refine wpAnyH_take (i := 14) (v := undef) rfl (by kernel_rfl) (by kernel_rfl) (by kernel_rfl) (fun _ _ _ h => h) (Or.inr ⟨by simp [Region.wanted, yielded], rfl⟩) (by assumption) ?_
    (try simp only [Act.put, List.getElem_toArray, List.getElem_cons_zero, List.getElem_cons_succ, List.setIfInBounds_toArray, List.set_cons_zero, List.set_cons_succ])
    refine wpAnyH_take (i := 15) (v := undef) rfl (by kernel_rfl) (by kernel_rfl) (by kernel_rfl) (fun _ _ _ h => h) (Or.inr ⟨by simp [Region.wanted, yielded], rfl⟩) (by assumption) ?_
    (try simp only [Act.put, List.getElem_toArray, List.getElem_cons_zero, List.getElem_cons_succ, List.setIfInBounds_toArray, List.set_cons_zero, List.set_cons_succ])
    refine wpAnyH_take (i := 16) (v := undef) rfl (by kernel_rfl) (by kernel_rfl) (by kernel_rfl) (fun _ _ _ h => h) (Or.inr ⟨by simp [Region.wanted, yielded], rfl⟩) (by assumption) ?_
    (try simp only [Act.put, List.getElem_toArray, List.getElem_cons_zero, List.getElem_cons_succ, List.setIfInBounds_toArray, List.set_cons_zero, List.set_cons_succ])
    refine wpAnyH_take (i := 17) (v := undef) rfl (by kernel_rfl) (by kernel_rfl) (by kernel_rfl) (fun _ _ _ h => h) (Or.inr ⟨by simp [Region.wanted, yielded], rfl⟩) (by assumption) ?_
    (try simp only [Act.put, List.getElem_toArray, List.getElem_cons_zero, List.getElem_cons_succ, List.setIfInBounds_toArray, List.set_cons_zero, List.set_cons_succ])
    refine wpAnyH_take (i := 18) (v := .bool true) rfl (by kernel_rfl) (by kernel_rfl) (by kernel_rfl) (fun _ _ _ h => h) (Or.inl ⟨by rfl, ?_⟩) (by assumption) ?_
    · intro w' hSw; (try dsimp only at hSw); go_simp
    (try simp only [Act.put, List.getElem_toArray, List.getElem_cons_zero, List.getElem_cons_succ, List.setIfInBounds_toArray, List.set_cons_zero, List.set_cons_succ])
    refine wpAnyH_done (by kernel_rfl) ?_ _
    go_wp2_with fail
    go_ret
    exact Yn.no (fun h => by have h1 := hr.out.2 (HE.out.2 h.1.2); cases h1) (hB.trans ((held8b (by assumption)).mono hB.size))
  | true =>
    have HU := Lib.hid (HE.out.1 (hr.out.1 rfl))
    refine wpAnyH_take (i := 4) (v := .bool false) rfl (by kernel_rfl) (by kernel_rfl) (by kernel_rfl) (fun _ _ _ h => h) (Or.inl ⟨by rfl, ?_⟩) (by assumption) ?_
    · intro w' hSw; (try dsimp only at hSw); go_simp
    (try simp only [Act.put, List.getElem_toArray, List.getElem_cons_zero, List.getElem_cons_succ, List.setIfInBounds_toArray, List.set_cons_zero, List.set_cons_succ])
    refine wpAnyH_take (i := 5) (v := .bool false) rfl (by kernel_rfl) (by kernel_rfl) (by kernel_rfl) (fun _ _ _ h => h) (Or.inl ⟨by rfl, ?_⟩) (by assumption) ?_
    · intro w' hSw; (try dsimp only at hSw); go_simp
    (try simp only [Act.put, List.getElem_toArray, List.getElem_cons_zero, List.getElem_cons_succ, List.setIfInBounds_toArray, List.set_cons_zero, List.set_cons_succ])
    refine wpAnyH_take (i := 6) (v := .int .i64 (i : Nat)) rfl (by kernel_rfl) (by kernel_rfl) (by kernel_rfl) (fun _ _ _ h => h) (Or.inl ⟨by rfl, ?_⟩) (by assumption) ?_
    · intro w' hSw; (try dsimp only at hSw); go_simp
    (try simp only [Act.put, List.getElem_toArray, List.getElem_cons_zero, List.getElem_cons_succ, List.setIfInBounds_toArray, List.set_cons_zero, List.set_cons_succ])
    refine wpAnyH_take (i := 7) (v := .pointer (some ⟨w.heap.size + 1, 4, none⟩)) rfl (by kernel_rfl) (by kernel_rfl) (by kernel_rfl) (fun _ _ _ h => h) (Or.inl ⟨by rfl, ?_⟩) (by assumption) ?_
    · intro w' hSw; (try dsimp only at hSw); go_simp
    (try simp only [Act.put, List.getElem_toArray, List.getElem_cons_zero, List.getElem_cons_succ, List.setIfInBounds_toArray, List.set_cons_zero, List.set_cons_succ])
    refine wpAnyH_take (i := 8) (v := .slice A4 (P.st i).nt c4) rfl (by kernel_rfl) (by kernel_rfl) (by kernel_rfl) (fun _ _ _ h => h) (Or.inl ⟨by rfl, ?_⟩) (by assumption) ?_
    · intro w' hSw; (try dsimp only at hSw); go_simp
    (try simp only [Act.put, List.getElem_toArray, List.getElem_cons_zero, List.getElem_cons_succ, List.setIfInBounds_toArray, List.set_cons_zero, List.set_cons_succ])
    refine wpAnyH_ready (rs := [9]) (by kernel_rfl) (by simp) ?_
    refine AllReadyH.cons rfl (fun K hK => ?_) AllReadyH.nil
    go_simp
    go_wp2_with (go_at_call 69; refine (CT.out _ (held8b (by assumption))).mono ?_; rintro e w4 ⟨r4, rfl, hr4, hb4⟩)
    refine hK.out _ _ ?_ (fun hHeld => ?_)
    · (try dsimp only); (suffices hBB : Below W.heap.size W _ from ⟨(hBB.cell hql).trans q0, (hBB.cell hql).trans q1, (hBB.cell hql).trans q2, (hBB.cell hql).trans q3, (hBB.cell hql).trans q4, (hBB.cell hql).trans q5, (hBB.cell hql).trans q6, (hBB.cell hql).trans q7, hBB⟩; first | exact (Below.refl _ W).drew | exact held8b (by assumption) | (refine stepB (held8b (by assumption)) ?_; assumption))
    clear hK K
    (try simp only [Act.put, List.getElem_toArray, List.getElem_cons_zero, List.getElem_cons_succ, List.setIfInBounds_toArray, List.set_cons_zero, List.set_cons_succ])
    cases r4 with
    | false =>
      refine wpAnyH_take (i := 10) (v := .bool true) rfl (by kernel_rfl) (by kernel_rfl) (by kernel_rfl) (fun _ _ _ h => h) (Or.inl ⟨by rfl, ?_⟩) (by assumption) ?_
      · intro w' hSw; (try dsimp only at hSw); go_simp
      (try simp only [Act.put, List.getElem_toArray, List.getElem_cons_zero, List.getElem_cons_succ, List.setIfInBounds_toArray, List.set_cons_zero, List.set_cons_succ])
      refine wpAnyH_take (i := 11) (v := .bool true) rfl (by kernel_rfl) (by kernel_rfl) (by kernel_rfl) (fun _ _ _ h => h) (Or.inl ⟨by rfl, ?_⟩) (by assumption) ?_
      · intro w' hSw; (try dsimp only at hSw); go_simp
      (try simp only [Act.put, List.getElem_toArray, List.getElem_cons_zero, List.getElem_cons_succ, List.setIfInBounds_toArray, List.set_cons_zero, List.set_cons_succ])
      refine wpAnyH_take (i := 12) (v := .bool true) rfl (by kernel_rfl) (by kernel_rfl) (by kernel_rfl) (fun _ _ _ h => h) (Or.inl ⟨by rfl, ?_⟩) (by assumption) ?_
      · intro w' hSw; (try dsimp only at hSw); go_simp
      (try simp only [Act.put, List.getElem_toArray, List.getElem_cons_zero, List.getElem_cons_succ, List.setIfInBounds_toArray, List.set_cons_zero, List.set_cons_succ])
      refine wpAnyH_take (i := 13) (v := undef) rfl (by kernel_rfl) (by kernel_rfl) (by kernel_rfl) (fun _ _ _ h => h) (Or.inr ⟨by simp [Region.wanted, yielded], rfl⟩) (by assumption) ?_
      (try simp only [Act.put, List.getElem_toArray, List.getElem_cons_zero, List.getElem_cons_succ, List.setIfInBounds_toArray, List.set_cons_zero, List.set_cons_succ])
      refine wpAnyH_take (i := 14) (v := undef) rfl (by kernel_rfl) (by kernel_rfl) (by kernel_rfl) (fun _ _ _ h => h) (Or.inr ⟨by simp [Region.wanted, yielded], rfl⟩) (by assumption) ?_
      (try simp only [Act.put, List.getElem_toArray, List.getElem_cons_zero, List.getElem_cons_succ, List.setIfInBounds_toArray, List.set_cons_zero, List.set_cons_succ])
      refine wpAnyH_take (i := 15) (v := undef) rfl (by kernel_rfl) (by kernel_rfl) (by kernel_rfl) (fun _ _ _ h => h) (Or.inr ⟨by simp [Region.wanted, yielded], rfl⟩) (by assumption) ?_
      (try simp only [Act.put, List.getElem_toArray, List.getElem_cons_zero, List.getElem_cons_succ, List.setIfInBounds_toArray, List.set_cons_zero, List.set_cons_succ])
      refine wpAnyH_take (i := 16) (v := undef) rfl (by kernel_rfl) (by kernel_rfl) (by kernel_rfl) (fun _ _ _ h => h) (Or.inr ⟨by simp [Region.wanted, yielded], rfl⟩) (by assumption) ?_
      (try simp only [Act.put, List.getElem_toArray, List.getElem_cons_zero, List.getElem_cons_succ, List.setIfInBounds_toArray, List.set_cons_zero, List.set_cons_succ])
      refine wpAnyH_take (i := 17) (v := undef) rfl (by kernel_rfl) (by kernel_rfl) (by kernel_rfl) (fun _ _ _ h => h) (Or.inr ⟨by simp [Region.wanted, yielded], rfl⟩) (by assumption) ?_
      (try simp only [Act.put, List.getElem_toArray, List.getElem_cons_zero, List.getElem_cons_succ, List.setIfInBounds_toArray, List.set_cons_zero, List.set_cons_succ])
      refine wpAnyH_take (i := 18) (v := .bool true) rfl (by kernel_rfl) (by kernel_rfl) (by kernel_rfl) (fun _ _ _ h => h) (Or.inl ⟨by rfl, ?_⟩) (by assumption) ?_
      · intro w' hSw; (try dsimp only at hSw); go_simp
      (try simp only [Act.put, List.getElem_toArray, List.getElem_cons_zero, List.getElem_cons_succ, List.setIfInBounds_toArray, List.set_cons_zero, List.set_cons_succ])
      refine wpAnyH_done (by kernel_rfl) ?_ _
      go_wp2_with fail
      go_ret
      exact Yn.no (fun h => by have h1 := hr4.out.2 h.2.1; cases h1) (hB.trans ((held8b (by assumption)).mono hB.size))
    | true =>
      have HA4 := Lib.hid (hr4.out.1 rfl)
      refine wpAnyH_take (i := 10) (v := .bool false) rfl (by kernel_rfl) (by kernel_rfl) (by kernel_rfl) (fun _ _ _ h => h) (Or.inl ⟨by rfl, ?_⟩) (by assumption) ?_
      · intro w' hSw; (try dsimp only at hSw); go_simp
      (try simp only [Act.put, List.getElem_toArray, List.getElem_cons_zero, List.getElem_cons_succ, List.setIfInBounds_toArray, List.set_cons_zero, List.set_cons_succ])
      refine wpAnyH_take (i := 11) (v := .bool false) rfl (by kernel_rfl) (by kernel_rfl) (by kernel_rfl) (fun _ _ _ h => h) (Or.inl ⟨by rfl, ?_⟩) (by assumption) ?_
      · intro w' hSw; (try dsimp only at hSw); go_simp
      (try simp only [Act.put, List.getElem_toArray, List.getElem_cons_zero, List.getElem_cons_succ, List.setIfInBounds_toArray, List.set_cons_zero, List.set_cons_succ])
      refine wpAnyH_take (i := 12) (v := .bool false) rfl (by kernel_rfl) (by kernel_rfl) (by kernel_rfl) (fun _ _ _ h => h) (Or.inl ⟨by rfl, ?_⟩) (by assumption) ?_
      · intro w' hSw; (try dsimp only at hSw); go_simp
      (try simp only [Act.put, List.getElem_toArray, List.getElem_cons_zero, List.getElem_cons_succ, List.setIfInBounds_toArray, List.set_cons_zero, List.set_cons_succ])
      refine wpAnyH_take (i := 13) (v := .int .i64 (i : Nat)) rfl (by kernel_rfl) (by kernel_rfl) (by kernel_rfl) (fun _ _ _ h => h) (Or.inl ⟨by rfl, ?_⟩) (by assumption) ?_
      · intro w' hSw; (try dsimp only at hSw); go_simp
      (try simp only [Act.put, List.getElem_toArray, List.getElem_cons_zero, List.getElem_cons_succ, List.setIfInBounds_toArray, List.set_cons_zero, List.set_cons_succ])
      refine wpAnyH_take (i := 14) (v := .pointer (some ⟨w.heap.size + 1, 5, none⟩)) rfl (by kernel_rfl) (by kernel_rfl) (by kernel_rfl) (fun _ _ _ h => h) (Or.inl ⟨by rfl, ?_⟩) (by assumption) ?_
      · intro w' hSw; (try dsimp only at hSw); go_simp
      (try simp only [Act.put, List.getElem_toArray, List.getElem_cons_zero, List.getElem_cons_succ, List.setIfInBounds_toArray, List.set_cons_zero, List.set_cons_succ])
      refine wpAnyH_take (i := 15) (v := .slice A5 (P.st i).ne c5) rfl (by kernel_rfl) (by kernel_rfl) (by kernel_rfl) (fun _ _ _ h => h) (Or.inl ⟨by rfl, ?_⟩) (by assumption) ?_
      · intro w' hSw; (try dsimp only at hSw); go_simp
      (try simp only [Act.put, List.getElem_toArray, List.getElem_cons_zero, List.getElem_cons_succ, List.setIfInBounds_toArray, List.set_cons_zero, List.set_cons_succ])
      refine wpAnyH_ready (rs := [16]) (by kernel_rfl) (by simp) ?_
      refine AllReadyH.cons rfl (fun K hK => ?_) AllReadyH.nil
      go_simp
      go_wp2_with (go_at_call 69; refine (CE.out _ (held8b (by assumption))).mono ?_; rintro e w5 ⟨r5, rfl, hr5, hb5⟩)
      refine hK.out _ _ ?_ (fun hHeld => ?_)
      · (try dsimp only); (suffices hBB : Below W.heap.size W _ from ⟨(hBB.cell hql).trans q0, (hBB.cell hql).trans q1, (hBB.cell hql).trans q2, (hBB.cell hql).trans q3, (hBB.cell hql).trans q4, (hBB.cell hql).trans q5, (hBB.cell hql).trans q6, (hBB.cell hql).trans q7, hBB⟩; first | exact (Below.refl _ W).drew | exact held8b (by assumption) | (refine stepB (held8b (by assumption)) ?_; assumption))
      clear hK K
      (try simp only [Act.put, List.getElem_toArray, List.getElem_cons_zero, List.getElem_cons_succ, List.setIfInBounds_toArray, List.set_cons_zero, List.set_cons_succ])
      cases r5 with
      | false =>
        refine wpAnyH_take (i := 17) (v := .bool true) rfl (by kernel_rfl) (by kernel_rfl) (by kernel_rfl) (fun _ _ _ h => h) (Or.inl ⟨by rfl, ?_⟩) (by assumption) ?_
        · intro w' hSw; (try dsimp only at hSw); go_simp
        (try simp only [Act.put, List.getElem_toArray, List.getElem_cons_zero, List.getElem_cons_succ, List.setIfInBounds_toArray, List.set_cons_zero, List.set_cons_succ])
        refine wpAnyH_take (i := 18) (v := .bool true) rfl (by kernel_rfl) (by kernel_rfl) (by kernel_rfl) (fun _ _ _ h => h) (Or.inl ⟨by rfl, ?_⟩) (by assumption) ?_
        · intro w' hSw; (try dsimp only at hSw); go_simp
        (try simp only [Act.put, List.getElem_toArray, List.getElem_cons_zero, List.getElem_cons_succ, List.setIfInBounds_toArray, List.set_cons_zero, List.set_cons_succ])
        refine wpAnyH_done (by kernel_rfl) ?_ _
        go_wp2_with fail
        go_ret
        exact Yn.no (fun h => by have h1 := hr5.out.2 h.2.2; cases h1) (hB.trans ((held8b (by assumption)).mono hB.size))
      | true =>
        have HA5 := Lib.hid (hr5.out.1 rfl)
        refine wpAnyH_take (i := 17) (v := .bool false) rfl (by kernel_rfl) (by kernel_rfl) (by kernel_rfl) (fun _ _ _ h => h) (Or.inl ⟨by rfl, ?_⟩) (by assumption) ?_
        · intro w' hSw; (try dsimp only at hSw); go_simp
        (try simp only [Act.put, List.getElem_toArray, List.getElem_cons_zero, List.getElem_cons_succ, List.setIfInBounds_toArray, List.set_cons_zero, List.set_cons_succ])
        refine wpAnyH_take (i := 18) (v := .bool false) rfl (by kernel_rfl) (by kernel_rfl) (by kernel_rfl) (fun _ _ _ h => h) (Or.inl ⟨by rfl, ?_⟩) (by assumption) ?_
        · intro w' hSw; (try dsimp only at hSw); go_simp
        (try simp only [Act.put, List.getElem_toArray, List.getElem_cons_zero, List.getElem_cons_succ, List.setIfInBounds_toArray, List.set_cons_zero, List.set_cons_succ])
        refine wpAnyH_done (by kernel_rfl) ?_ _
        have hb := held8b (by assumption)
        have hP := hP.below hb hP.lt
        have hQ := hQ.below hb hQ.lt
        have hB := hB.trans (hb.mono hB.size)
        clear hHeld q0 q1 q2 q3 q4 q5 q6 q7 qf
        obtain ⟨q0, q1, q2, q3, q4, q5, q6, q7, qf⟩ := hQ.eight
        obtain ⟨p0, p1, p2, p3, p4, p5, pf⟩ := hP.six
        by_cases ht : 1 ≤ (P.st i).times ∧ (P.st i).times ≤ 4
        · have d1 : decide (1 ≤ (P.st i).times) = true := decide_eq_true ht.1
          have d2 : decide ((P.st i).times ≤ 4) = true := decide_eq_true ht.2
          have HT := Lib.hid ht
          clear ht
          go_wp2_with fail
          go_ret
          exact Yn.yes ⟨⟨HT.out, HU.out⟩, ⟨HA4.out, HA5.out⟩⟩ hB
        · have HT := Lib.hid ht
          have d1 : decide (1 ≤ (P.st i).times) = false ∨ (decide (1 ≤ (P.st i).times) = true ∧ decide ((P.st i).times ≤ 4) = false) := by
            by_cases h : 1 ≤ (P.st i).times
            · exact .inr ⟨decide_eq_true h, decide_eq_false (by omega)⟩
            · exact .inl (decide_eq_false h)
          clear ht
          rcases d1 with d1 | ⟨d1, d2⟩
          all_goals go_wp2_with fail
          all_goals go_ret
          all_goals exact Yn.no (fun h => HT.out h.1.1) hB

end Go.Proofs.YtoaiejodbmkbjaaGreatDoor
