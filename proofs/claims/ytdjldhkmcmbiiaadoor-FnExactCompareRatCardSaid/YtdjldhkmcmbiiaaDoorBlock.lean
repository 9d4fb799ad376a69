/-
  The program's blocks of seven words: scaled by a word and added to.
-/
import Derived.Test.YtdjldhkmcmbiiaaDoorSubMul
import Derived.Test.YtdjldhkmcmbiiaaDoorPureM
namespace Go.Proofs.YtdjldhkmcmbiiaaDoor
open Go.RowKit Num

section
variable {w : World} {G : Nat} {t : TypeId} {a b c d e f g : Value}
theorem Box.seven (h : Box w G t #[a, b, c, d, e, f, g]) : w.cell? ⟨G, 0, none⟩ = some a ∧ w.cell? ⟨G, 1, none⟩ = some b ∧ w.cell? ⟨G, 2, none⟩ = some c ∧ w.cell? ⟨G, 3, none⟩ = some d ∧ w.cell? ⟨G, 4, none⟩ = some e ∧ w.cell? ⟨G, 5, none⟩ = some f ∧ w.cell? ⟨G, 6, none⟩ = some g :=
  ⟨h.cell 0, h.cell 1, h.cell 2, h.cell 3, h.cell 4, h.cell 5, h.cell 6⟩
theorem Box.at0 (h : Box w G t #[a, b, c, d, e, f, g]) (u : Value) : Box (w.setCell ⟨G, 0, none⟩ u) G t #[u, b, c, d, e, f, g] := h.set 0 u
theorem Box.at1 (h : Box w G t #[a, b, c, d, e, f, g]) (u : Value) : Box (w.setCell ⟨G, 1, none⟩ u) G t #[a, u, c, d, e, f, g] := h.set 1 u
theorem Box.at2 (h : Box w G t #[a, b, c, d, e, f, g]) (u : Value) : Box (w.setCell ⟨G, 2, none⟩ u) G t #[a, b, u, d, e, f, g] := h.set 2 u
theorem Box.at3 (h : Box w G t #[a, b, c, d, e, f, g]) (u : Value) : Box (w.setCell ⟨G, 3, none⟩ u) G t #[a, b, c, u, e, f, g] := h.set 3 u
theorem Box.at4 (h : Box w G t #[a, b, c, d, e, f, g]) (u : Value) : Box (w.setCell ⟨G, 4, none⟩ u) G t #[a, b, c, d, u, f, g] := h.set 4 u
theorem Box.at5 (h : Box w G t #[a, b, c, d, e, f, g]) (u : Value) : Box (w.setCell ⟨G, 5, none⟩ u) G t #[a, b, c, d, e, u, g] := h.set 5 u
theorem Box.at6 (h : Box w G t #[a, b, c, d, e, f, g]) (u : Value) : Box (w.setCell ⟨G, 6, none⟩ u) G t #[a, b, c, d, e, f, u] := h.set 6 u
theorem Box.put7 (h : Box w G t #[a, b, c, d, e, f, g]) (p q r s u v x : Value) :
    Box (((((((w.setCell ⟨G, 0, none⟩ p).setCell ⟨G, 1, none⟩ q).setCell ⟨G, 2, none⟩ r).setCell ⟨G, 3, none⟩ s).setCell ⟨G, 4, none⟩ u).setCell ⟨G, 5, none⟩ v).setCell ⟨G, 6, none⟩ x) G t #[p, q, r, s, u, v, x] :=
  (((((((h.at0 p).at1 q).at2 r).at3 s).at4 u).at5 v).at6 x)
theorem below_put7 {B : Nat} {w0 : World} (hb : Below B w0 w) (hg : B ≤ G) (p q r s u v x : Value) :
    Below B w0 (((((((w.setCell ⟨G, 0, none⟩ p).setCell ⟨G, 1, none⟩ q).setCell ⟨G, 2, none⟩ r).setCell ⟨G, 3, none⟩ s).setCell ⟨G, 4, none⟩ u).setCell ⟨G, 5, none⟩ v).setCell ⟨G, 6, none⟩ x) :=
  ((((((hb.setCell (p := ⟨G, 0, none⟩) hg p).setCell (p := ⟨G, 1, none⟩) hg q).setCell (p := ⟨G, 2, none⟩) hg r).setCell (p := ⟨G, 3, none⟩) hg s).setCell (p := ⟨G, 4, none⟩) hg u).setCell (p := ⟨G, 5, none⟩) hg v).setCell (p := ⟨G, 6, none⟩) hg x
end

/-- Seven words as a value. -/
def blk (a b c d e f g : Nat) : Value := .agg #[.int .u64 (a : Nat), .int .u64 (b : Nat), .int .u64 (c : Nat), .int .u64 (d : Nat), .int .u64 (e : Nat), .int .u64 (f : Nat), .int .u64 (g : Nat)]


theorem row_step {B P a s p l c L A c7 : Nat} (h : a * s + p = l + c * B) (ih : L + c7 * P = A * s + c) : (l + B * L) + c7 * (B * P) = (a + B * A) * s + p := by
  grind

theorem seven_step (s : Nat) {a0 a1 a2 a3 a4 a5 a6 p l0 l1 l2 l3 l4 l5 l6 c1 c2 c3 c4 c5 c6 c7 : Nat} (h0 : a0 * s + p = l0 + c1 * WB) (h1 : a1 * s + c1 = l1 + c2 * WB) (h2 : a2 * s + c2 = l2 + c3 * WB) (h3 : a3 * s + c3 = l3 + c4 * WB) (h4 : a4 * s + c4 = l4 + c5 * WB) (h5 : a5 * s + c5 = l5 + c6 * WB) (h6 : a6 * s + c6 = l6 + c7 * WB) :
    val WB [l0, l1, l2, l3, l4, l5, l6] + c7 * WB ^ 7 = val WB [a0, a1, a2, a3, a4, a5, a6] * s + p := by
  have e : WB ^ 7 = WB * (WB * (WB * (WB * (WB * (WB * (WB * 1)))))) := by
    generalize WB = B
    simp only [Nat.pow_succ, Nat.pow_zero, Nat.one_mul, Nat.mul_one, Nat.mul_assoc]
  rw [e]
  exact row_step h0 (row_step h1 (row_step h2 (row_step h3 (row_step h4 (row_step h5 (row_step h6 (by simp [val])))))))

theorem blk_index (cs : Array Value) (k : Nat) (hk : k < 7) (v : Value) (hv : cs[k]? = some v) (W : World) : (Instr.index 102 (.agg cs) (.int .i64 (k : Nat))).run Tryd.prog W = .ok v W := by
  simp [Instr.index, run_underlying Tryd.underlying102, asIntOf, hk, hv, go_sem]

set_option maxRecDepth 100000 in
set_option maxHeartbeats 1600000 in
theorem scaledPlus_any (a0 a1 a2 a3 a4 a5 a6 s p : Nat) (w : World) (hd : Dig WB [a0, a1, a2, a3, a4, a5, a6]) (hs : s < WB) (hp : p < WB) (hfit : val WB [a0, a1, a2, a3, a4, a5, a6] * s + p < WB ^ 7) :
    Calls Tryd.prog 117 #[blk a0 a1 a2 a3 a4 a5 a6, .int .u64 (s : Nat), .int .u64 (p : Nat)] w fun e w' => (∃ l0 l1 l2 l3 l4 l5 l6, e = .returned (blk l0 l1 l2 l3 l4 l5 l6) ∧ Dig WB [l0, l1, l2, l3, l4, l5, l6] ∧ val WB [l0, l1, l2, l3, l4, l5, l6] = val WB [a0, a1, a2, a3, a4, a5, a6] * s + p) ∧ Below w.heap.size w w' := by
  unfold blk
  have d0 : a0 < WB := hd _ (by simp)
  have d1 : a1 < WB := hd _ (by simp)
  have d2 : a2 < WB := hd _ (by simp)
  have d3 : a3 < WB := hd _ (by simp)
  have d4 : a4 < WB := hd _ (by simp)
  have d5 : a5 < WB := hd _ (by simp)
  have d6 : a6 < WB := hd _ (by simp)
  have mk : ∀ a c : Nat, a < WB → c < WB → ∃ l c', l < WB ∧ c' < WB ∧ a * s + c = l + c' * WB ∧ (∀ W, Calls Tryd.prog 106 #[.int .u64 (a : Nat), .int .u64 (s : Nat), .int .u64 (c : Nat)] W fun e w' => e = .returned (.tuple #[.int .u64 (l : Nat), .int .u64 (c' : Nat)]) ∧ W = w') := fun a c ha hc =>
    ⟨(a * s + c) % WB, (a * s + c) / WB, Nat.mod_lt _ (by unfold WB; omega), mulAdd_hi ha hs hc, by rw [Nat.mul_comm _ WB]; exact (Nat.mod_add_div _ _).symm, fun W => mulAdd_same a s c _ _ ha hs hc rfl rfl W⟩
  obtain ⟨l0, c1, m0, n1, e0, M0⟩ := mk a0 p d0 hp
  obtain ⟨l1, c2, m1, n2, e1, M1⟩ := mk a1 c1 d1 n1
  obtain ⟨l2, c3, m2, n3, e2, M2⟩ := mk a2 c2 d2 n2
  obtain ⟨l3, c4, m3, n4, e3, M3⟩ := mk a3 c3 d3 n3
  obtain ⟨l4, c5, m4, n5, e4, M4⟩ := mk a4 c4 d4 n4
  obtain ⟨l5, c6, m5, n6, e5, M5⟩ := mk a5 c5 d5 n5
  obtain ⟨l6, c7, m6, n7, e6, M6⟩ := mk a6 c6 d6 n6
  have hfin : Dig WB [l0, l1, l2, l3, l4, l5, l6] ∧ val WB [l0, l1, l2, l3, l4, l5, l6] = val WB [a0, a1, a2, a3, a4, a5, a6] * s + p := by
    have h := seven_step s e0 e1 e2 e3 e4 e5 e6
    refine ⟨?_, ?_⟩
    · intro x hx
      simp only [List.mem_cons, List.not_mem_nil, or_false] at hx
      rcases hx with rfl | rfl | rfl | rfl | rfl | rfl | rfl <;> assumption
    · have h7 : c7 = 0 := by
        apply Nat.eq_zero_of_not_pos
        intro h8
        have : 1 * WB ^ 7 ≤ c7 * WB ^ 7 := Nat.mul_le_mul_right _ h8
        omega
      rw [h7] at h
      omega
  have Hfin := Lib.hid hfin; clear hfin
  have K0 := Lib.hid M0; have K1 := Lib.hid M1; have K2 := Lib.hid M2; have K3 := Lib.hid M3; have K4 := Lib.hid M4; have K5 := Lib.hid M5; have K6 := Lib.hid M6
  clear M0 M1 M2 M3 M4 M5 M6 mk hd hs hp hfit d0 d1 d2 d3 d4 d5 d6 e0 e1 e2 e3 e4 e5 e6 m0 m1 m2 m3 m4 m5 m6 n1 n2 n3 n4 n5 n6 n7
  have hix := fun k hk v hv => blk_index #[.int .u64 (a0 : Nat), .int .u64 (a1 : Nat), .int .u64 (a2 : Nat), .int .u64 (a3 : Nat), .int .u64 (a4 : Nat), .int .u64 (a5 : Nat), .int .u64 (a6 : Nat)] k hk v hv
  have x0 : ∀ W, (Instr.index 102 (.agg #[.int .u64 (a0 : Nat), .int .u64 (a1 : Nat), .int .u64 (a2 : Nat), .int .u64 (a3 : Nat), .int .u64 (a4 : Nat), .int .u64 (a5 : Nat), .int .u64 (a6 : Nat)]) (.int .i64 0)).run Tryd.prog W = .ok (.int .u64 (a0 : Nat)) W := hix 0 (by omega) _ rfl
  have x1 : ∀ W, (Instr.index 102 (.agg #[.int .u64 (a0 : Nat), .int .u64 (a1 : Nat), .int .u64 (a2 : Nat), .int .u64 (a3 : Nat), .int .u64 (a4 : Nat), .int .u64 (a5 : Nat), .int .u64 (a6 : Nat)]) (.int .i64 1)).run Tryd.prog W = .ok (.int .u64 (a1 : Nat)) W := hix 1 (by omega) _ rfl
  have x2 : ∀ W, (Instr.index 102 (.agg #[.int .u64 (a0 : Nat), .int .u64 (a1 : Nat), .int .u64 (a2 : Nat), .int .u64 (a3 : Nat), .int .u64 (a4 : Nat), .int .u64 (a5 : Nat), .int .u64 (a6 : Nat)]) (.int .i64 2)).run Tryd.prog W = .ok (.int .u64 (a2 : Nat)) W := hix 2 (by omega) _ rfl
  have x3 : ∀ W, (Instr.index 102 (.agg #[.int .u64 (a0 : Nat), .int .u64 (a1 : Nat), .int .u64 (a2 : Nat), .int .u64 (a3 : Nat), .int .u64 (a4 : Nat), .int .u64 (a5 : Nat), .int .u64 (a6 : Nat)]) (.int .i64 3)).run Tryd.prog W = .ok (.int .u64 (a3 : Nat)) W := hix 3 (by omega) _ rfl
  have x4 : ∀ W, (Instr.index 102 (.agg #[.int .u64 (a0 : Nat), .int .u64 (a1 : Nat), .int .u64 (a2 : Nat), .int .u64 (a3 : Nat), .int .u64 (a4 : Nat), .int .u64 (a5 : Nat), .int .u64 (a6 : Nat)]) (.int .i64 4)).run Tryd.prog W = .ok (.int .u64 (a4 : Nat)) W := hix 4 (by omega) _ rfl
  have x5 : ∀ W, (Instr.index 102 (.agg #[.int .u64 (a0 : Nat), .int .u64 (a1 : Nat), .int .u64 (a2 : Nat), .int .u64 (a3 : Nat), .int .u64 (a4 : Nat), .int .u64 (a5 : Nat), .int .u64 (a6 : Nat)]) (.int .i64 5)).run Tryd.prog W = .ok (.int .u64 (a5 : Nat)) W := hix 5 (by omega) _ rfl
  have x6 : ∀ W, (Instr.index 102 (.agg #[.int .u64 (a0 : Nat), .int .u64 (a1 : Nat), .int .u64 (a2 : Nat), .int .u64 (a3 : Nat), .int .u64 (a4 : Nat), .int .u64 (a5 : Nat), .int .u64 (a6 : Nat)]) (.int .i64 6)).run Tryd.prog W = .ok (.int .u64 (a6 : Nat)) W := hix 6 (by omega) _ rfl
  clear hix
  go_enter Tryd.func117, Tryd.ntmps117
  go_wp2_with fail
  refine wp_loop_rounds 8 ?_
  rw [rounds_succ]
  go_wp2_with (go_at_call 106; refine (K0.out _).mono ?_; rintro e w' ⟨rfl, rfl⟩)
  rw [rounds_succ]
  go_wp2_with (go_at_call 106; refine (K1.out _).mono ?_; rintro e w' ⟨rfl, rfl⟩)
  rw [rounds_succ]
  go_wp2_with (go_at_call 106; refine (K2.out _).mono ?_; rintro e w' ⟨rfl, rfl⟩)
  rw [rounds_succ]
  go_wp2_with (go_at_call 106; refine (K3.out _).mono ?_; rintro e w' ⟨rfl, rfl⟩)
  rw [rounds_succ]
  go_wp2_with (go_at_call 106; refine (K4.out _).mono ?_; rintro e w' ⟨rfl, rfl⟩)
  rw [rounds_succ]
  go_wp2_with (go_at_call 106; refine (K5.out _).mono ?_; rintro e w' ⟨rfl, rfl⟩)
  rw [rounds_succ]
  go_wp2_with (go_at_call 106; refine (K6.out _).mono ?_; rintro e w' ⟨rfl, rfl⟩)
  rw [rounds_succ]
  go_wp2_with fail
  exact bodyPost_ret (v := .agg #[.int .u64 (l0 : Nat), .int .u64 (l1 : Nat), .int .u64 (l2 : Nat), .int .u64 (l3 : Nat), .int .u64 (l4 : Nat), .int .u64 (l5 : Nat), .int .u64 (l6 : Nat)]) (by simp [results, Tryd.results117, go_sem]; done) rfl ⟨⟨l0, l1, l2, l3, l4, l5, l6, rfl, Hfin.out.1, Hfin.out.2⟩, by first | exact ((Below.refl _ w).alloc (Nat.le_refl _) _).alloc (by simp) _ | skip⟩

end Go.Proofs.YtdjldhkmcmbiiaaDoor
