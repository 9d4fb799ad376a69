/-
  Lists of statements and procedures, and programs: the program's tests of equality.
-/
import Derived.Test.YtmojckplaplpfaaPgSt
namespace Go.Proofs.Ytmojckplaplpfaa
open Go.RowKit Num

theorem not_t {r : Bool} (h : (!r) = true) : ¬ r = true := by cases r <;> simp_all
theorem not_f {r : Bool} (h : (!r) = false) : r = true := by cases r <;> simp_all

/-- Two lists of statements are equal; two lists of procedures. -/
def StsEq (n : Nat) (f : Nat → Stm) (m : Nat) (g : Nat → Stm) : Prop := n = m ∧ ∀ j, j < n → StEq (f j) (g j)
def PrsEq (n : Nat) (pn : Nat → ByteArray) (pl : Nat → Nat) (pb : Nat → Nat → Int) (m : Nat) (qn : Nat → ByteArray) (ql : Nat → Nat) (qb : Nat → Nat → Int) : Prop := n = m ∧ ∀ j, j < n → pn j = qn j ∧ LsEq (pl j) (pb j) (ql j) (qb j)

theorem below_two {w w1 : World} {a b : Obj} (h : Below ((w.alloc a).alloc b).heap.size ((w.alloc a).alloc b) w1) : Below w.heap.size w w1 :=
  (((Below.refl _ w).alloc (Nat.le_refl _) a).alloc (by simp) b).trans (h.mono (by simp; omega))

set_option maxRecDepth 100000 in
set_option maxHeartbeats 3200000 in
theorem eqfStmts_any (lo lo' : Nat) (A0 A1 : Option Addr) (n m c0 c1 : Nat) (f : Nat → Stm) (g : Nat → Stm) (w : World) (hn : n ≤ 1048576) (hm : m ≤ 1048576) (h0 : StAt lo w A0 n f) (h1 : StAt lo' w A1 m g) (hs : ∀ j, j < n → (f j).small) (ht : ∀ j, j < m → (g j).small) :
    Calls Try.prog 75 #[.slice A0 n c0, .slice A1 m c1, .func (.func 76) #[] #[]] w (Yn (StsEq n f m g) w) := by
  have H0 := Lib.hid h0; clear h0
  have H1 := Lib.hid h1; clear h1
  have HS := Lib.hid hs; clear hs
  have HT := Lib.hid ht; clear ht
  by_cases hnm : n = m
  · subst hnm
    go_enter Try.func75, Try.ntmps75
    go_wp2_with fail
    go_loopg [17] n (fun q iv wr => ∃ k : Nat, k + q = n ∧ iv = .int .i64 (k : Nat) ∧ Hid (∀ j, j < k → StEq (f j) (g j)) ∧ Below w.heap.size w wr)
    case atStart => exact ⟨0, by omega, rfl, Lib.hid fun j h => by omega, Below.refl _ _⟩
    case round =>
      obtain ⟨k, hk, rfl, hq, hbel⟩ := hrel
      by_cases hk0 : k < n
      · obtain ⟨b, off, A3, c3, A4, c4, A5, c5, rfl, hb, r0, r1, r2, r3, r4, r5, r6, r7, g3, g4, g5⟩ := (H0.out.below hbel (Nat.le_refl _)).at_ hk0
        obtain ⟨b', off', B3, d3, B4, d4, B5, d5, rfl, hb', s0, s1, s2, s3, s4, s5, s6, s7, e3, e4, e5⟩ := (H1.out.below hbel (Nat.le_refl _)).at_ hk0
        have hsk := HS.out k hk0
        have htk := HT.out k hk0
        have C : Hid (∀ W, Below wr.heap.size wr W → _) := Lib.hid fun W hW => eqStmts_any lo lo' (f k) (g k) A3 A4 A5 B3 B4 B5 c3 c4 c5 d3 d4 d5 W hsk htk (g3.below hW (Nat.le_refl _)) (g4.below hW (Nat.le_refl _)) (g5.below hW (Nat.le_refl _)) (e3.below hW (Nat.le_refl _)) (e4.below hW (Nat.le_refl _)) (e5.below hW (Nat.le_refl _))
        clear g3 g4 g5 e3 e4 e5 hsk htk
        go_wp2_with (go_at_call 76; refine (C.out _ (((Below.refl _ wr).alloc (Nat.le_refl _) _).alloc (by simp) _)).mono ?_; rintro e w1 ⟨r, rfl, hr, hb1⟩; have hB := hbel.trans ((below_two hb1).mono hbel.size); clear hb1)
        all_goals first
          | (go_ret
             exact Yn.no (fun h => absurd (hr.out.2 (h.2 k hk0)) (not_t (by assumption))) hB)
          | (have HE : Hid (r = true) := Lib.hid (not_f (by assumption))
             go_roundg (gk - 1)
             case rel => exact ⟨k + 1, by omega, by go_num, Lib.hid fun j hj => by
               by_cases hjk : j < k
               · exact hq.out j hjk
               · obtain rfl : j = k := by omega
                 exact hr.out.1 HE.out, hB⟩
             case measure => omega)
      · obtain rfl : k = n := by omega
        go_wp2_with fail
        go_ret
        exact Yn.yes ⟨rfl, hq.out⟩ hbel
  · have hne : ((n : Int) == (m : Int)) = false := by rw [beq_eq_false_iff_ne]; omega
    go_enter Try.func75, Try.ntmps75
    go_wp2_with fail
    go_ret
    exact Yn.no (fun h => hnm h.1) (Below.refl _ _)

set_option maxRecDepth 100000 in
set_option maxHeartbeats 3200000 in
theorem eqfProcs_any (lo lo' : Nat) (A0 A1 : Option Addr) (n m c0 c1 : Nat) (pn : Nat → ByteArray) (pl : Nat → Nat) (pb : Nat → Nat → Int) (qn : Nat → ByteArray) (ql : Nat → Nat) (qb : Nat → Nat → Int) (w : World) (hn : n ≤ 1048576) (hm : m ≤ 1048576) (h0 : PrAt lo w A0 n pn pl pb) (h1 : PrAt lo' w A1 m qn ql qb) (hs : ∀ j, j < n → pl j ≤ 1048576) (ht : ∀ j, j < m → ql j ≤ 1048576) :
    Calls Try.prog 77 #[.slice A0 n c0, .slice A1 m c1, .func (.func 78) #[] #[]] w (Yn (PrsEq n pn pl pb m qn ql qb) w) := by
  have H0 := Lib.hid h0; clear h0
  have H1 := Lib.hid h1; clear h1
  have HS := Lib.hid hs; clear hs
  have HT := Lib.hid ht; clear ht
  by_cases hnm : n = m
  · subst hnm
    go_enter Try.func77, Try.ntmps77
    go_wp2_with fail
    go_loopg [17] n (fun q iv wr => ∃ k : Nat, k + q = n ∧ iv = .int .i64 (k : Nat) ∧ Hid (∀ j, j < k → (pn j = qn j ∧ LsEq (pl j) (pb j) (ql j) (qb j))) ∧ Below w.heap.size w wr)
    case atStart => exact ⟨0, by omega, rfl, Lib.hid fun j h => by omega, Below.refl _ _⟩
    case round =>
      obtain ⟨k, hk, rfl, hq, hbel⟩ := hrel
      by_cases hk0 : k < n
      · obtain ⟨b, off, A3, c3, rfl, hb, r0, r1, g3⟩ := (H0.out.below hbel (Nat.le_refl _)).at_ hk0
        obtain ⟨b', off', B3, d3, rfl, hb', s0, s1, e3⟩ := (H1.out.below hbel (Nat.le_refl _)).at_ hk0
        have hsk := HS.out k hk0
        have htk := HT.out k hk0
        have C : Hid (∀ W, Below wr.heap.size wr W → _) := Lib.hid fun W hW => eqProcs_any lo lo' (pn k) (qn k) A3 B3 (pl k) (ql k) c3 d3 (pb k) (qb k) W hsk htk (g3.below hW (Nat.le_refl _)) (e3.below hW (Nat.le_refl _))
        clear g3 e3 hsk htk
        go_wp2_with (go_at_call 78; refine (C.out _ (((Below.refl _ wr).alloc (Nat.le_refl _) _).alloc (by simp) _)).mono ?_; rintro e w1 ⟨r, rfl, hr, hb1⟩; have hB := hbel.trans ((below_two hb1).mono hbel.size); clear hb1)
        all_goals first
          | (go_ret
             exact Yn.no (fun h => absurd (hr.out.2 (h.2 k hk0)) (not_t (by assumption))) hB)
          | (have HE : Hid (r = true) := Lib.hid (not_f (by assumption))
             go_roundg (gk - 1)
             case rel => exact ⟨k + 1, by omega, by go_num, Lib.hid fun j hj => by
               by_cases hjk : j < k
               · exact hq.out j hjk
               · obtain rfl : j = k := by omega
                 exact hr.out.1 HE.out, hB⟩
             case measure => omega)
      · obtain rfl : k = n := by omega
        go_wp2_with fail
        go_ret
        exact Yn.yes ⟨rfl, hq.out⟩ hbel
  · have hne : ((n : Int) == (m : Int)) = false := by rw [beq_eq_false_iff_ne]; omega
    go_enter Try.func77, Try.ntmps77
    go_wp2_with fail
    go_ret
    exact Yn.no (fun h => hnm h.1) (Below.refl _ _)

end Go.Proofs.Ytmojckplaplpfaa
