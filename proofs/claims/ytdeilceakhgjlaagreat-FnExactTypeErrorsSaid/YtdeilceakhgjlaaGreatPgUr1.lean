/-
  The variables that are read: the mathematics, and the test for a statement with an expression.
-/
import Derived.Test.YtdeilceakhgjlaaGreatPgVo5
import Derived.Test.YtdeilceakhgjlaaGreatPgVi
namespace Go.Proofs.YtdeilceakhgjlaaGreat
open Go.RowKit Num

/-- The statement has an expression. -/
def Has (k : Int) : Prop := k = 2 ∨ k = 4 ∨ k = 5 ∨ k = 7
theorem has_cases (k : Int) : ((k == 2) = true ∧ Has k) ∨ ((k == 2) = false ∧ (k == 4) = true ∧ Has k) ∨ ((k == 2) = false ∧ (k == 4) = false ∧ (k == 5) = true ∧ Has k) ∨ ((k == 2) = false ∧ (k == 4) = false ∧ (k == 5) = false ∧ (k == 7) = true ∧ Has k) ∨ ((k == 2) = false ∧ (k == 4) = false ∧ (k == 5) = false ∧ (k == 7) = false ∧ ¬ Has k) := by
  by_cases h2 : k = 2
  · exact .inl ⟨by rw [h2]; rfl, .inl h2⟩
  by_cases h4 : k = 4
  · exact .inr (.inl ⟨beq_eq_false_iff_ne.2 h2, by rw [h4]; rfl, .inr (.inl h4)⟩)
  by_cases h5 : k = 5
  · exact .inr (.inr (.inl ⟨beq_eq_false_iff_ne.2 h2, beq_eq_false_iff_ne.2 h4, by rw [h5]; rfl, .inr (.inr (.inl h5))⟩))
  by_cases h7 : k = 7
  · exact .inr (.inr (.inr (.inl ⟨beq_eq_false_iff_ne.2 h2, beq_eq_false_iff_ne.2 h4, beq_eq_false_iff_ne.2 h5, by rw [h7]; rfl, .inr (.inr (.inr h7))⟩)))
  · exact .inr (.inr (.inr (.inr ⟨beq_eq_false_iff_ne.2 h2, beq_eq_false_iff_ne.2 h4, beq_eq_false_iff_ne.2 h5, beq_eq_false_iff_ne.2 h7, fun h => by rcases h with h | h | h | h <;> contradiction⟩)))
theorem has_ex {P : Prg} {s : Stm} (h : StOk P s) (hk : Has s.kind) : 0 ≤ s.ex ∧ s.ex < (P.nx : Int) := by
  rcases hk with e | e | e | e
  · have := (stOkAssign e).1 h; omega
  all_goals
    (unfold StOk at h
     simp [e] at h
     omega)

/-- The list's numbers are marked. -/
def putL (u : Nat → Bool) (xs : List Int) : Nat → Bool := xs.foldl (fun u x => setU u x.toNat) u
theorem putL_snoc (u : Nat → Bool) (xs : List Int) (x : Int) : putL u (xs ++ [x]) = setU (putL u xs) x.toNat := by rw [putL, List.foldl_append]; rfl
theorem putL_take (u : Nat → Bool) (xs : List Int) {j : Nat} (hj : j < xs.length) : putL u (xs.take (j + 1)) = setU (putL u (xs.take j)) (xs.getD j 0).toNat := by
  rw [List.take_succ_eq_append_getElem hj, putL_snoc, List.getD_eq_getElem?_getD, List.getElem?_eq_getElem hj]
  rfl
theorem putL_ups (u t : Nat → Bool) (v : Nat) : ∀ K, putL u (ups t K) v = (u v || (decide (v < K) && t v))
  | 0 => by simp [ups, upsN, putL]
  | K + 1 => by
    have ih := putL_ups u t v K
    rw [ups_succ]
    cases hk : t K with
    | true =>
      rw [if_pos rfl, putL_snoc, setU, ih, Int.toNat_natCast]
      by_cases hv : v = K
      · subst hv; simp [hk]
      · have : (v == K) = false := beq_eq_false_iff_ne.2 hv
        have h2 : decide (v < K + 1) = decide (v < K) := by simp; omega
        rw [this, h2, Bool.or_false]
    | false =>
      rw [if_neg (by simp), List.append_nil, ih]
      by_cases hv : v = K
      · subst hv; simp [hk]
      · have h2 : decide (v < K + 1) = decide (v < K) := by simp; omega
        rw [h2]
theorem ups_get {u : Nat → Bool} {K j : Nat} (hj : j < (ups u K).length) : ∃ v : Nat, (ups u K).getD j 0 = (v : Int) ∧ v < K ∧ u v = true := by
  have hm : (ups u K).getD j 0 ∈ ups u K := by
    rw [List.getD_eq_getElem?_getD, List.getElem?_eq_getElem hj]
    exact List.getElem_mem hj
  obtain ⟨v, h1, h2, h3⟩ := mem_ups.1 hm
  exact ⟨v, h3, h1, h2⟩
/-- A variable of an expression is one of the program's. -/
theorem vI_lt {F : Nat → Nat → Int} {m n e v : Nat} (h : exsOk F m n = true) (he : e < n) (hv : vI F e (e + 1) v = true) : v < m := by
  obtain ⟨r, h1, _, h3, h4⟩ := (vI_iff F e v (e + 1)).1 hv
  have hox := exsOk_in h (show e - r < n by omega)
  rw [exOk, if_neg (by omega), if_pos h3, decide_eq_true_eq] at hox
  omega
theorem BoolsC.off {cs : Array Value} {n k : Nat} {u : Nat → Bool} (h : BoolsC cs n (fun j => !u j)) (hk : k < n) : BoolsC (cs.setIfInBounds k (.bool false)) n (fun j => !setU u k j) := by
  refine ⟨by rw [Array.size_setIfInBounds]; exact h.1, fun j hj => ?_⟩
  rw [Array.getElem?_setIfInBounds]
  by_cases hjk : k = j
  · subst hjk
    rw [if_pos rfl, if_pos (by rw [h.1]; exact hk)]
    simp [setU]
  · have he : (j == k) = false := beq_eq_false_iff_ne.2 (Ne.symm hjk)
    rw [if_neg hjk, h.2 j hj]
    simp only [setU, he, Bool.or_false]

open Classical in
/-- The variables that the first k statements read. -/
noncomputable def rdS (P : Prg) : Nat → (Nat → Bool)
  | 0 => fun _ => false
  | k + 1 => if Has (P.st k).kind then putL (rdS P k) (ups (vI P.ex (P.st k).ex.toNat ((P.st k).ex.toNat + 1)) 5) else rdS P k
open Classical in
noncomputable def urL (P : Prg) : List Int := if PgOk P then ups (fun j => !rdS P P.ns j) P.nv else []
open Classical in
noncomputable def urB (P : Prg) : Bool := if PgOk P then true else false
noncomputable def urN (P : Prg) : Nat := (urL P).length
noncomputable def urF (P : Prg) : Nat → Int := fun j => (urL P).getD j 0
theorem urN_le (P : Prg) : urN P ≤ 1048576 := by
  unfold urN urL
  split
  · next h => exact Nat.le_trans (ups_le _ _) (by have : P.nv ≤ 5 := h.1.2.2; omega)
  · simp
theorem ur_no {P : Prg} (h : ¬ PgOk P) : urL P = [] ∧ urB P = false := ⟨if_neg h, if_neg h⟩
theorem ur_yes {P : Prg} (h : PgOk P) : urL P = ups (fun j => !rdS P P.ns j) P.nv ∧ urB P = true := ⟨if_pos h, if_pos h⟩
theorem rd_yes {P : Prg} {k : Nat} (h : Has (P.st k).kind) : rdS P (k + 1) = putL (rdS P k) (ups (vI P.ex (P.st k).ex.toNat ((P.st k).ex.toNat + 1)) 5) := by rw [rdS, if_pos h]
theorem rd_no {P : Prg} {k : Nat} (h : ¬ Has (P.st k).kind) : rdS P (k + 1) = rdS P k := by rw [rdS, if_neg h]

set_option maxRecDepth 100000 in
set_option maxHeartbeats 1600000 in
theorem specHas_any (s : Stm) (A3 A4 A5 : Option Addr) (c3 c4 c5 : Nat) (w : World) :
    Calls Tryz.prog 51 #[.agg #[.int .i64 s.kind, .int .i64 s.var, .int .i64 s.ex, .slice A3 s.nc c3, .slice A4 s.nt c4, .slice A5 s.ne c5, .int .i64 s.times, .int .i64 s.proc]] w (Yn (Has s.kind) w) := by
  have hP := Box.new w 67 #[.int .i64 s.kind, .int .i64 s.var, .int .i64 s.ex, .slice A3 s.nc c3, .slice A4 s.nt c4, .slice A5 s.ne c5, .int .i64 s.times, .int .i64 s.proc]
  have hB := (Below.refl w.heap.size w).alloc (Nat.le_refl _) (.cells #[.int .i64 s.kind, .int .i64 s.var, .int .i64 s.ex, .slice A3 s.nc c3, .slice A4 s.nt c4, .slice A5 s.ne c5, .int .i64 s.times, .int .i64 s.proc] 67)
  obtain ⟨q0, q1, q2, q3, q4, q5, q6, q7, qf⟩ := hP.eight
  rcases has_cases s.kind with ⟨e2, hl⟩ | ⟨e2, e4, hl⟩ | ⟨e2, e4, e5, hl⟩ | ⟨e2, e4, e5, e7, hl⟩ | ⟨e2, e4, e5, e7, hl⟩
  all_goals have HL := Lib.hid hl
  all_goals clear hl
  all_goals go_enter Tryz.func51, Tryz.ntmps51
  all_goals go_wp2_with fail
  all_goals go_ret
  all_goals first
    | exact Yn.yes HL.out hB
    | exact Yn.no HL.out hB

set_option maxRecDepth 100000 in
set_option maxHeartbeats 1600000 in
theorem implHas_any (k : Int) (w : World) :
    Calls Tryz.prog 63 #[.int .i64 k] w (Yn (Has k) w) := by
  have hB := Below.refl w.heap.size w
  rcases has_cases k with ⟨e2, hl⟩ | ⟨e2, e4, hl⟩ | ⟨e2, e4, e5, hl⟩ | ⟨e2, e4, e5, e7, hl⟩ | ⟨e2, e4, e5, e7, hl⟩
  all_goals have HL := Lib.hid hl
  all_goals clear hl
  all_goals go_enter Tryz.func63, Tryz.ntmps63
  all_goals go_wp2_with fail
  all_goals go_ret
  all_goals first
    | exact Yn.yes HL.out hB
    | exact Yn.no HL.out hB

end Go.Proofs.YtdeilceakhgjlaaGreat
