/-
  Lists of ints and of structs of plain cells: the program's and the model's tests of equality.
-/
import Derived.Test.YtoaiejodbmkbjaaGreatDoorPgSz
import Derived.Laws.StructEq
namespace Go.Proofs.YtoaiejodbmkbjaaGreatDoor
open Go.RowKit Num

/-- A test's post: a bool that is true just where p holds. -/
def Yn (p : Prop) (w : World) (e : Ending) (w' : World) : Prop := ∃ r : Bool, e = .returned (.bool r) ∧ Hid (r = true ↔ p) ∧ Below w.heap.size w w'

theorem Yn.no {p : Prop} {w w' : World} (h : ¬ p) (hb : Below w.heap.size w w') : Yn p w (.returned (.bool false)) w' := ⟨false, rfl, Lib.hid ⟨fun h' => (by cases h'), fun h' => absurd h' h⟩, hb⟩
theorem Yn.yes {p : Prop} {w w' : World} (h : p) (hb : Below w.heap.size w w') : Yn p w (.returned (.bool true)) w' := ⟨true, rfl, Lib.hid ⟨fun _ => h, fun _ => rfl⟩, hb⟩

/-- Two lists are equal. -/
def LsEq {α : Type} (n : Nat) (f : Nat → α) (m : Nat) (g : Nat → α) : Prop := n = m ∧ ∀ j, j < n → f j = g j

theorem toList_inj {a b : ByteArray} (h : (a.toList == b.toList) = true) : a = b := by
  have h := eq_of_beq h
  rw [ByteArray.toList_eq, ByteArray.toList_eq] at h
  obtain ⟨⟨x⟩⟩ := a
  obtain ⟨⟨y⟩⟩ := b
  simpa using h

theorem Tryz.und_Choice : Tryz.prog.underlying 119 = some (.struct (Tryz.prog.fieldsOf 119)) := by kernel_rfl
theorem Tryz.sih_Choice : Tryz.prog.stoodInHeld 119 = false := by kernel_rfl
theorem Tryz.flds_Choice : ((Tryz.prog.fieldsOf 119).toList.map fun f => (f.name, f.type, f.offset)) = [("Value", 3, 0), ("Weight", 3, 1)] := by kernel_rfl

theorem eqfOfChoice (a s : Int) (b t : Int) (W : World) : (Op.equalIn 10000 119 (.agg #[.int .i64 a, .int .i64 b]) (.agg #[.int .i64 s, .int .i64 t])).run Tryz.prog W = .ok ((a == s) && (b == t)) W := by
  rw [run_equalIn_agg _ 9999 _ _ _ Tryz.und_Choice Tryz.sih_Choice]
  have hf := Tryz.flds_Choice
  generalize (Tryz.prog.fieldsOf 119).toList = fs at hf ⊢
  obtain ⟨f0, fs, rfl, h0, hf⟩ := List.map_eq_cons_iff.1 hf
  obtain ⟨f1, fs, rfl, h1, hf⟩ := List.map_eq_cons_iff.1 hf
  obtain rfl := List.map_eq_nil_iff.1 hf
  simp only [Prod.mk.injEq] at h0 h1
  obtain ⟨n0, t0, o0⟩ := h0
  obtain ⟨n1, t1, o1⟩ := h1
  simp [Op.eqFields, n0, t0, o0, n1, t1, o1, go_sem]
  repeat' split
  all_goals simp_all

theorem neqOfChoice (a s : Int) (b t : Int) (W : World) : (binOp .neq 119 (.agg #[.int .i64 a, .int .i64 b]) (.agg #[.int .i64 s, .int .i64 t])).run Tryz.prog W = .ok (.bool (!((a == s) && (b == t)))) W := by
  rw [run_neq_struct, eqfOfChoice]; rfl

theorem Tryz.und_Var : Tryz.prog.underlying 82 = some (.struct (Tryz.prog.fieldsOf 82)) := by kernel_rfl
theorem Tryz.sih_Var : Tryz.prog.stoodInHeld 82 = false := by kernel_rfl
theorem Tryz.flds_Var : ((Tryz.prog.fieldsOf 82).toList.map fun f => (f.name, f.type, f.offset)) = [("Name", 9, 0), ("Size", 3, 1)] := by kernel_rfl

theorem eqfOfVar (a s : ByteArray) (b t : Int) (W : World) : (Op.equalIn 10000 82 (.agg #[.string a, .int .i64 b]) (.agg #[.string s, .int .i64 t])).run Tryz.prog W = .ok ((a.toList == s.toList) && (b == t)) W := by
  rw [run_equalIn_agg _ 9999 _ _ _ Tryz.und_Var Tryz.sih_Var]
  have hf := Tryz.flds_Var
  generalize (Tryz.prog.fieldsOf 82).toList = fs at hf ⊢
  obtain ⟨f0, fs, rfl, h0, hf⟩ := List.map_eq_cons_iff.1 hf
  obtain ⟨f1, fs, rfl, h1, hf⟩ := List.map_eq_cons_iff.1 hf
  obtain rfl := List.map_eq_nil_iff.1 hf
  simp only [Prod.mk.injEq] at h0 h1
  obtain ⟨n0, t0, o0⟩ := h0
  obtain ⟨n1, t1, o1⟩ := h1
  simp [Op.eqFields, n0, t0, o0, n1, t1, o1, go_sem]
  repeat' split
  all_goals simp_all

theorem neqOfVar (a s : ByteArray) (b t : Int) (W : World) : (binOp .neq 82 (.agg #[.string a, .int .i64 b]) (.agg #[.string s, .int .i64 t])).run Tryz.prog W = .ok (.bool (!((a.toList == s.toList) && (b == t)))) W := by
  rw [run_neq_struct, eqfOfVar]; rfl

theorem Tryz.und_Expr : Tryz.prog.underlying 80 = some (.struct (Tryz.prog.fieldsOf 80)) := by kernel_rfl
theorem Tryz.sih_Expr : Tryz.prog.stoodInHeld 80 = false := by kernel_rfl
theorem Tryz.flds_Expr : ((Tryz.prog.fieldsOf 80).toList.map fun f => (f.name, f.type, f.offset)) = [("Op", 3, 0), ("A", 3, 1), ("B", 3, 2), ("Val", 3, 3)] := by kernel_rfl

theorem eqfOfExpr (a s : Int) (b t : Int) (c u : Int) (d v : Int) (W : World) : (Op.equalIn 10000 80 (.agg #[.int .i64 a, .int .i64 b, .int .i64 c, .int .i64 d]) (.agg #[.int .i64 s, .int .i64 t, .int .i64 u, .int .i64 v])).run Tryz.prog W = .ok ((a == s) && (b == t) && (c == u) && (d == v)) W := by
  rw [run_equalIn_agg _ 9999 _ _ _ Tryz.und_Expr Tryz.sih_Expr]
  have hf := Tryz.flds_Expr
  generalize (Tryz.prog.fieldsOf 80).toList = fs at hf ⊢
  obtain ⟨f0, fs, rfl, h0, hf⟩ := List.map_eq_cons_iff.1 hf
  obtain ⟨f1, fs, rfl, h1, hf⟩ := List.map_eq_cons_iff.1 hf
  obtain ⟨f2, fs, rfl, h2, hf⟩ := List.map_eq_cons_iff.1 hf
  obtain ⟨f3, fs, rfl, h3, hf⟩ := List.map_eq_cons_iff.1 hf
  obtain rfl := List.map_eq_nil_iff.1 hf
  simp only [Prod.mk.injEq] at h0 h1 h2 h3
  obtain ⟨n0, t0, o0⟩ := h0
  obtain ⟨n1, t1, o1⟩ := h1
  obtain ⟨n2, t2, o2⟩ := h2
  obtain ⟨n3, t3, o3⟩ := h3
  simp [Op.eqFields, n0, t0, o0, n1, t1, o1, n2, t2, o2, n3, t3, o3, go_sem]
  repeat' split
  all_goals simp_all

theorem neqOfExpr (a s : Int) (b t : Int) (c u : Int) (d v : Int) (W : World) : (binOp .neq 80 (.agg #[.int .i64 a, .int .i64 b, .int .i64 c, .int .i64 d]) (.agg #[.int .i64 s, .int .i64 t, .int .i64 u, .int .i64 v])).run Tryz.prog W = .ok (.bool (!((a == s) && (b == t) && (c == u) && (d == v)))) W := by
  rw [run_neq_struct, eqfOfExpr]; rfl

set_option maxRecDepth 100000 in
set_option maxHeartbeats 1600000 in
theorem eqInts_any (lo lo' : Nat) (A0 A1 : Option Addr) (n m c0 c1 : Nat) (f : Nat → Int) (g : Nat → Int) (w : World) (hn : n ≤ 1048576) (hm : m ≤ 1048576) (h0 : IntsAt lo w A0 n f) (h1 : IntsAt lo' w A1 m g) :
    Calls Tryz.prog 83 #[.slice A0 n c0, .slice A1 m c1] w (Yn (LsEq n f m g) w) := by
  have H0 := Lib.hid h0; clear h0
  have H1 := Lib.hid h1; clear h1
  by_cases hnm : n = m
  · subst hnm
    go_enter Tryz.func83, Tryz.ntmps83
    go_wp2_with fail
    go_loopg [13] n (fun q iv wr => ∃ k : Nat, k + q = n ∧ iv = .int .i64 (k : Nat) ∧ Hid (∀ j, j < k → f j = g j) ∧ Below w.heap.size w wr)
    case atStart => exact ⟨0, by omega, rfl, Lib.hid fun j h => by omega, Below.refl _ _⟩
    case round =>
      obtain ⟨k, hk, rfl, hq, hbel⟩ := hrel
      by_cases hk0 : k < n
      · obtain ⟨b, off, rfl, hb, r0⟩ := (H0.out.below hbel (Nat.le_refl _)).at_ hk0
        obtain ⟨b', off', rfl, hb', r1⟩ := (H1.out.below hbel (Nat.le_refl _)).at_ hk0
        cases he : (f k == g k) with
        | true =>
          have HE : Hid (f k = g k) := Lib.hid (eq_of_beq he)
          skip
          go_upto_region 6 with fail
          go_quiet (fail)
          go_wp2_with fail
          go_roundg (gk - 1)
          case rel => exact ⟨k + 1, by omega, by go_num, Lib.hid fun j hj => by
            by_cases hjk : j < k
            · exact hq.out j hjk
            · obtain rfl : j = k := by omega
              exact HE.out, below_drewN _ hbel⟩
          case measure => omega
        | false =>
          have HE : Hid (f k ≠ g k) := Lib.hid (by simpa using he)
          skip
          go_upto_region 6 with fail
          go_quiet (fail)
          go_wp2_with fail
          go_ret
          exact Yn.no (fun h => HE.out (h.2 k hk0)) (below_drewN _ hbel)
      · obtain rfl : k = n := by omega
        go_wp2_with fail
        go_ret
        exact Yn.yes ⟨rfl, hq.out⟩ hbel
  · have hne : ((n : Int) == (m : Int)) = false := by rw [beq_eq_false_iff_ne]; omega
    go_enter Tryz.func83, Tryz.ntmps83
    go_wp2_with fail
    go_ret
    exact Yn.no (fun h => hnm h.1) (Below.refl _ _)

set_option maxRecDepth 100000 in
set_option maxHeartbeats 1600000 in
theorem eqChoices_any (lo lo' : Nat) (A0 A1 : Option Addr) (n m c0 c1 : Nat) (f : Nat → Int × Int) (g : Nat → Int × Int) (w : World) (hn : n ≤ 1048576) (hm : m ≤ 1048576) (h0 : ChAt lo w A0 n f) (h1 : ChAt lo' w A1 m g) :
    Calls Tryz.prog 82 #[.slice A0 n c0, .slice A1 m c1] w (Yn (LsEq n f m g) w) := by
  have H0 := Lib.hid h0; clear h0
  have H1 := Lib.hid h1; clear h1
  by_cases hnm : n = m
  · subst hnm
    go_enter Tryz.func82, Tryz.ntmps82
    go_wp2_with fail
    go_loopg [13] n (fun q iv wr => ∃ k : Nat, k + q = n ∧ iv = .int .i64 (k : Nat) ∧ Hid (∀ j, j < k → f j = g j) ∧ Below w.heap.size w wr)
    case atStart => exact ⟨0, by omega, rfl, Lib.hid fun j h => by omega, Below.refl _ _⟩
    case round =>
      obtain ⟨k, hk, rfl, hq, hbel⟩ := hrel
      by_cases hk0 : k < n
      · obtain ⟨b, off, rfl, hb, r0, r1⟩ := (H0.out.below hbel (Nat.le_refl _)).at_ hk0
        obtain ⟨b', off', rfl, hb', s0, s1⟩ := (H1.out.below hbel (Nat.le_refl _)).at_ hk0
        cases he : ((f k).1 == (g k).1 && (f k).2 == (g k).2) with
        | true =>
          have HE : Hid (f k = g k) := Lib.hid (by rw [Bool.and_eq_true] at he; exact Prod.ext (eq_of_beq he.1) (eq_of_beq he.2))
          have NR : ∀ W, (binOp .neq 119 (.agg #[.int .i64 (f k).1, .int .i64 (f k).2]) (.agg #[.int .i64 (g k).1, .int .i64 (g k).2])).run Tryz.prog W = .ok (.bool false) W := fun W => by rw [neqOfChoice, he]; rfl
          clear he
          go_upto_region 6 with fail
          go_quiet (fail)
          go_wp2_with fail
          go_roundg (gk - 1)
          case rel => exact ⟨k + 1, by omega, by go_num, Lib.hid fun j hj => by
            by_cases hjk : j < k
            · exact hq.out j hjk
            · obtain rfl : j = k := by omega
              exact HE.out, below_drewN _ hbel⟩
          case measure => omega
        | false =>
          have HE : Hid (f k ≠ g k) := Lib.hid (fun h => by rw [h] at he; simp at he)
          have NR : ∀ W, (binOp .neq 119 (.agg #[.int .i64 (f k).1, .int .i64 (f k).2]) (.agg #[.int .i64 (g k).1, .int .i64 (g k).2])).run Tryz.prog W = .ok (.bool true) W := fun W => by rw [neqOfChoice, he]; rfl
          clear he
          go_upto_region 6 with fail
          go_quiet (fail)
          go_wp2_with fail
          go_ret
          exact Yn.no (fun h => HE.out (h.2 k hk0)) (below_drewN _ hbel)
      · obtain rfl : k = n := by omega
        go_wp2_with fail
        go_ret
        exact Yn.yes ⟨rfl, hq.out⟩ hbel
  · have hne : ((n : Int) == (m : Int)) = false := by rw [beq_eq_false_iff_ne]; omega
    go_enter Tryz.func82, Tryz.ntmps82
    go_wp2_with fail
    go_ret
    exact Yn.no (fun h => hnm h.1) (Below.refl _ _)

end Go.Proofs.YtoaiejodbmkbjaaGreatDoor
