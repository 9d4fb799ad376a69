/-
  EqualDiagram: the program's and the model's test; the law.
-/
import Derived.Test.YtamjfcckgeakfaaDgA
namespace Go.Proofs.Ytamjfcckgeakfaa
open Go.RowKit Num

/-- Two lists of nodes are equal. -/
def NdsEq (n m : Nat) (f g : Nat → Int) : Prop := n = m ∧ ∀ j, j < n → f (j * 3) = g (j * 3) ∧ f (j * 3 + 1) = g (j * 3 + 1) ∧ f (j * 3 + 2) = g (j * 3 + 2)

theorem Try.und_Dgn : Try.prog.underlying 86 = some (.struct (Try.prog.fieldsOf 86)) := by kernel_rfl
theorem Try.sih_Dgn : Try.prog.stoodInHeld 86 = false := by kernel_rfl
theorem Try.flds_Dgn : ((Try.prog.fieldsOf 86).toList.map fun f => (f.name, f.type, f.offset)) = [("Level", 3, 0), ("Low", 3, 1), ("High", 3, 2)] := by kernel_rfl

/-- Two nodes' parts. -/
def nd3 (a b c d e f : Int) : Bool := (a == d) && (b == e) && (c == f)

theorem eqfOfDgn (a b c d e f : Int) (W : World) : (Op.equalIn 10000 86 (.agg #[.int .i64 a, .int .i64 b, .int .i64 c]) (.agg #[.int .i64 d, .int .i64 e, .int .i64 f])).run Try.prog W = .ok (nd3 a b c d e f) W := by
  rw [run_equalIn_agg _ 9999 _ _ _ Try.und_Dgn Try.sih_Dgn]
  have hf := Try.flds_Dgn
  generalize (Try.prog.fieldsOf 86).toList = fs at hf ⊢
  obtain ⟨f0, fs, rfl, h0, hf⟩ := List.map_eq_cons_iff.1 hf
  obtain ⟨f1, fs, rfl, h1, hf⟩ := List.map_eq_cons_iff.1 hf
  obtain ⟨f2, fs, rfl, h2, hf⟩ := List.map_eq_cons_iff.1 hf
  obtain rfl := List.map_eq_nil_iff.1 hf
  simp only [Prod.mk.injEq] at h0 h1 h2
  obtain ⟨n0, t0, o0⟩ := h0
  obtain ⟨n1, t1, o1⟩ := h1
  obtain ⟨n2, t2, o2⟩ := h2
  simp [Op.eqFields, n0, t0, o0, n1, t1, o1, n2, t2, o2, go_sem, nd3]
  repeat' split
  all_goals simp_all

theorem neqOfDgn (a b c d e f : Int) (W : World) : (binOp .neq 86 (.agg #[.int .i64 a, .int .i64 b, .int .i64 c]) (.agg #[.int .i64 d, .int .i64 e, .int .i64 f])).run Try.prog W = .ok (.bool (!nd3 a b c d e f)) W := by
  rw [run_neq_struct, eqfOfDgn]; rfl

theorem eqlOfDgn (a b c d e f : Int) (W : World) : (binOp .eql 86 (.agg #[.int .i64 a, .int .i64 b, .int .i64 c]) (.agg #[.int .i64 d, .int .i64 e, .int .i64 f])).run Try.prog W = .ok (.bool (nd3 a b c d e f)) W := by
  rw [run_eql_struct, eqfOfDgn]; rfl

theorem nd3_iff {a b c d e f : Int} : nd3 a b c d e f = true ↔ a = d ∧ b = e ∧ c = f := by simp [nd3, and_assoc]

/-- Two diagrams are equal. -/
def DgEq (L r : Int) (n : Nat) (f : Nat → Int) (M s : Int) (m : Nat) (g : Nat → Int) : Prop := L = M ∧ r = s ∧ NdsEq n m f g

set_option maxRecDepth 100000 in
set_option maxHeartbeats 3200000 in
theorem specEqDg_any (lo lo' : Nat) (L r M s : Int) (A0 A1 : Option Addr) (n m c0 c1 : Nat) (f g : Nat → Int) (w : World) (hn : n ≤ 1048576) (hm : m ≤ 1048576) (h0 : IntsAt lo w A0 (n * 3) f) (h1 : IntsAt lo' w A1 (m * 3) g) :
    Calls Try.prog 26 #[dgV L A0 n c0 r, dgV M A1 m c1 s] w (Yd (DgEq L r n f M s m g) w) := by
  have hP := (Box.new w 28 #[.int .i64 L, .slice A0 n c0, .int .i64 r]).alloc (.cells #[.int .i64 M, .slice A1 m c1, .int .i64 s] 28)
  have hQ := Box.new (w.alloc (.cells #[.int .i64 L, .slice A0 n c0, .int .i64 r] 28)) 28 #[.int .i64 M, .slice A1 m c1, .int .i64 s]
  rw [show (w.alloc (.cells #[.int .i64 L, .slice A0 n c0, .int .i64 r] 28)).heap.size = w.heap.size + 1 by simp] at hQ
  have hB : Below w.heap.size w ((w.alloc (.cells #[.int .i64 L, .slice A0 n c0, .int .i64 r] 28)).alloc (.cells #[.int .i64 M, .slice A1 m c1, .int .i64 s] 28)) := ((Below.refl _ w).alloc (Nat.le_refl _) _).alloc (by simp) _
  obtain ⟨q0, q1, q2⟩ := hP.trio
  obtain ⟨u0, u1, u2⟩ := hQ.trio
  have H0 := Lib.hid (h0.below hB (Nat.le_refl _)); clear h0
  have H1 := Lib.hid (h1.below hB (Nat.le_refl _)); clear h1
  by_cases hL : L = M
  · subst hL
    have eL : (L != L) = false := bne_self_eq_false _
    by_cases hr : r = s
    · subst hr
      have eR : (r != r) = false := bne_self_eq_false _
      by_cases hnm : n = m
      · subst hnm
        have hne : ((n : Int) != (n : Int)) = false := bne_self_eq_false _
        go_enter Try.func26, Try.ntmps26
        go_wp2_with fail
        clear q0 q1 q2 u0 u1 u2
        generalize hW : World.alloc _ _ = W0 at hP hQ hB H0 H1 ⊢
        clear hW
        go_loopg [30] n (fun q iv wr => ∃ k : Nat, k + q = n ∧ iv = .int .i64 (k : Nat) ∧ Hid (∀ j, j < k → f (j * 3) = g (j * 3) ∧ f (j * 3 + 1) = g (j * 3 + 1) ∧ f (j * 3 + 2) = g (j * 3 + 2)) ∧ Below W0.heap.size W0 wr)
        case atStart => exact ⟨0, by omega, rfl, Lib.hid fun j h => by omega, Below.refl _ _⟩
        case round =>
          obtain ⟨k, hk, rfl, hq, hbel⟩ := hrel
          replace hP := hP.below hbel hP.lt
          replace hQ := hQ.below hbel hQ.lt
          have hB2 := hB.trans (hbel.mono hB.size)
          obtain ⟨q0, q1, q2⟩ := hP.trio
          obtain ⟨u0, u1, u2⟩ := hQ.trio
          by_cases hk0 : k < n
          · obtain ⟨b, off, rfl, hb, r0, r1, r2⟩ := (H0.out.below hbel (Nat.le_refl _)).trio hk0
            obtain ⟨b', off', rfl, hb', s0, s1, s2⟩ := (H1.out.below hbel (Nat.le_refl _)).trio hk0
            cases e1 : nd3 (f (k * 3)) (f (k * 3 + 1)) (f (k * 3 + 2)) (g (k * 3)) (g (k * 3 + 1)) (g (k * 3 + 2)) with
            | false =>
              have HE := Lib.hid e1
              have NR : ∀ W, (binOp .neq 86 (.agg #[.int .i64 (f (k * 3)), .int .i64 (f (k * 3 + 1)), .int .i64 (f (k * 3 + 2))]) (.agg #[.int .i64 (g (k * 3)), .int .i64 (g (k * 3 + 1)), .int .i64 (g (k * 3 + 2))])).run Try.prog W = .ok (.bool true) W := fun W => by rw [neqOfDgn, e1]; rfl
              clear e1
              go_upto_region 6 with fail
              go_quiet (fail)
              go_wp2_with fail
              go_ret
              exact Yd.no (fun h => by have := nd3_iff.2 (h.2.2.2 k hk0); rw [HE.out] at this; cases this) (below_drewN _ hB2)
            | true =>
              have HE := Lib.hid (nd3_iff.1 e1)
              have NR : ∀ W, (binOp .neq 86 (.agg #[.int .i64 (f (k * 3)), .int .i64 (f (k * 3 + 1)), .int .i64 (f (k * 3 + 2))]) (.agg #[.int .i64 (g (k * 3)), .int .i64 (g (k * 3 + 1)), .int .i64 (g (k * 3 + 2))])).run Try.prog W = .ok (.bool false) W := fun W => by rw [neqOfDgn, e1]; rfl
              clear e1
              go_upto_region 6 with fail
              go_quiet (fail)
              go_wp2_with fail
              go_roundg (gk - 1)
              case rel => exact ⟨k + 1, by omega, by go_num, Lib.hid fun j hj => by
                by_cases hjk : j < k
                · exact hq.out j hjk
                · obtain rfl : j = k := by omega
                  exact HE.out, below_drewN _ hbel⟩
              case measure => omega
          · obtain rfl : k = n := by omega
            go_wp2_with fail
            go_ret
            exact Yd.yes ⟨rfl, rfl, rfl, hq.out⟩ hB2
      · have hne : ((n : Int) != (m : Int)) = true := by rw [bne_iff_ne]; omega
        go_enter Try.func26, Try.ntmps26
        go_wp2_with fail
        go_ret
        exact Yd.no (fun h => hnm h.2.2.1) hB
    · have eR : (r != s) = true := bne_iff_ne.2 hr
      go_enter Try.func26, Try.ntmps26
      go_wp2_with fail
      go_ret
      exact Yd.no (fun h => hr h.2.1) hB
  · have eL : (L != M) = true := bne_iff_ne.2 hL
    go_enter Try.func26, Try.ntmps26
    go_wp2_with fail
    go_ret
    exact Yd.no (fun h => hL h.1) hB

end Go.Proofs.Ytamjfcckgeakfaa
