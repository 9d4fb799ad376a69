/-
  Several texts in one: PgTe1, PgTe2, PgTe3, PgTe4.
-/
import Derived.Test.YtdeilceakhgjlaaGreatPgEq
import Derived.Test.YtdeilceakhgjlaaGreatPgMk3
import Derived.Test.YtdeilceakhgjlaaGreatPgRg5
import Derived.Test.YtdeilceakhgjlaaGreatPgUr1
import Derived.Laws.AppendOwn
/-
  A list of structs of three ints: the law's comparison, marks and look. (Written by gen_pgte.py.)
-/
namespace Go.Proofs.YtdeilceakhgjlaaGreat
open Go.RowKit Num

theorem IntsAt.trio {lo : Nat} {w : World} {A : Option Addr} {n k : Nat} {f : Nat → Int} (h : IntsAt lo w A (n * 3) f) (hk : k < n) : ∃ b off, A = some ⟨b, off, none⟩ ∧ b < w.heap.size ∧ w.cell? ⟨b, off + k * 3, none⟩ = some (.int .i64 (f (k * 3))) ∧ w.cell? ⟨b, off + k * 3 + 1, none⟩ = some (.int .i64 (f (k * 3 + 1))) ∧ w.cell? ⟨b, off + k * 3 + 2, none⟩ = some (.int .i64 (f (k * 3 + 2))) := by
  obtain ⟨b, off, rfl, h1, h2⟩ := h (by omega)
  exact ⟨b, off, rfl, h1.2, h2 _ (by omega), h2 (k * 3 + 1) (by omega), h2 (k * 3 + 2) (by omega)⟩

theorem held6g {p0 p1 p2 p3 p4 p5 K : Prop} (h : p0 ∧ p1 ∧ p2 ∧ p3 ∧ p4 ∧ p5 ∧ K) : K := h.2.2.2.2.2.2

set_option maxRecDepth 100000 in
set_option maxHeartbeats 3200000 in
theorem eqTE_any (a b c : Int) (w : World) :
    Calls Tryz.prog 66 #[.agg #[.int .i64 a, .int .i64 b, .int .i64 c], .agg #[.int .i64 a, .int .i64 b, .int .i64 c]] w fun e w' => e = .returned (.bool true) ∧ Below w.heap.size w w' := by
  have hA := (Box.new w 75 #[.int .i64 a, .int .i64 b, .int .i64 c]).alloc (.cells #[.int .i64 a, .int .i64 b, .int .i64 c] 75)
  have q0 := hA.cell 0
  have q1 := hA.cell 1
  have q2 := hA.cell 2
  go_enter Tryz.func66, Tryz.ntmps66
  go_wp2_with fail
  go_ret
  exact ⟨rfl, ((Below.refl _ w).alloc (Nat.le_refl _) _).alloc (by simp) _⟩

set_option maxRecDepth 100000 in
set_option maxHeartbeats 3200000 in
theorem eqTES_any (lo lo' : Nat) (A0 A1 : Option Addr) (n c0 c1 : Nat) (f : Nat → Int) (w : World) (hn : n ≤ 1048576) (h0 : IntsAt lo w A0 (n * 3) f) (h1 : IntsAt lo' w A1 (n * 3) f) :
    Calls Tryz.prog 17 #[.slice A0 n c0, .slice A1 n c1] w fun e w' => e = .returned (.bool true) ∧ Below w.heap.size w w' := by
  have H0 := Lib.hid h0; clear h0
  have H1 := Lib.hid h1; clear h1
  go_enter Tryz.func17, Tryz.ntmps17
  go_wp2_with fail
  go_loopg [5] n (fun q iv wr => ∃ k : Nat, k + q = n ∧ iv = .int .i64 (k : Nat) ∧ Below w.heap.size w wr)
  case atStart => exact ⟨0, by omega, rfl, Below.refl _ _⟩
  case round =>
    obtain ⟨k, hk, rfl, hbel⟩ := hrel
    by_cases hk0 : k < n
    · obtain ⟨b, off, rfl, hb, r0, r1, r2⟩ := (H0.out.below hbel (Nat.le_refl _)).trio hk0
      obtain ⟨b', off', rfl, hb', s0, s1, s2⟩ := (H1.out.below hbel (Nat.le_refl _)).trio hk0
      generalize f (k * 3) = x at r0 s0
      generalize f (k * 3 + 1) = y at r1 s1
      generalize f (k * 3 + 2) = z at r2 s2
      have C : Hid (∀ W, Below wr.heap.size wr W → _) := Lib.hid fun W hW => eqTE_any x y z W
      clear H0 H1
      go_upto_region 6 with fail
      go_region_held3 (fun w' => w'.cell? ⟨b, off + k * 3, none⟩ = some (.int .i64 x) ∧ w'.cell? ⟨b, off + k * 3 + 1, none⟩ = some (.int .i64 y) ∧ w'.cell? ⟨b, off + k * 3 + 2, none⟩ = some (.int .i64 z) ∧ w'.cell? ⟨b', off' + k * 3, none⟩ = some (.int .i64 x) ∧ w'.cell? ⟨b', off' + k * 3 + 1, none⟩ = some (.int .i64 y) ∧ w'.cell? ⟨b', off' + k * 3 + 2, none⟩ = some (.int .i64 z) ∧ Below wr.heap.size wr w')
        ((suffices hB : Below wr.heap.size wr _ from ⟨(hB.cell hb).trans r0, (hB.cell hb).trans r1, (hB.cell hb).trans r2, (hB.cell hb').trans s0, (hB.cell hb').trans s1, (hB.cell hb').trans s2, hB⟩; first | exact (Below.refl _ wr).drew | exact held6g (by assumption) | (refine stepB (held6g (by assumption)) ?_; assumption)))
        ((go_at_call 66; refine (C.out _ (held6g (by assumption))).mono ?_; rintro e w1 ⟨rfl, hb1⟩))
      all_goals go_wp2_with fail
      go_roundg (gk - 1)
      case rel => exact ⟨k + 1, by omega, by go_num, hbel.trans ((show Below wr.heap.size wr _ from held6g (by assumption)).mono hbel.size)⟩
      case measure => omega
    · obtain rfl : k = n := by omega
      go_wp2_with fail
      go_ret
      exact ⟨rfl, hbel⟩

set_option maxRecDepth 100000 in
set_option maxHeartbeats 3200000 in
theorem markTES_any (lo : Nat) (A0 : Option Addr) (n cap : Nat) (f : Nat → Int) (w : World) (hn : n ≤ 1000) (hz : 0 < lo) (h : IntsAt lo w A0 (n * 3) f) :
    Calls Tryz.prog 20 #[.slice A0 n cap, .int .i64 1] w fun e w' => e = .returned (.int .i64 (1 + ((n * 3 : Nat) : Int))) ∧ IntsAt lo w' A0 (n * 3) (fun j => 1 + (j : Int)) ∧ Marks lo w.heap.size w w' := by
  have H := Lib.hid h
  clear h
  go_enter Tryz.func20, Tryz.ntmps20
  go_wp2_with fail
  go_loopg [1, 5] n (fun q kv iv wr => ∃ (k : Nat) (x : Int), k + q = n ∧ iv = .int .i64 (k : Nat) ∧ kv = .int .i64 x ∧ Hid (x = 1 + ((k * 3 : Nat) : Int)) ∧ Hid (∀ b off, A0 = some ⟨b, off, none⟩ → ∀ j, j < k * 3 → wr.cell? ⟨b, off + j, none⟩ = some (.int .i64 (1 + (j : Int)))) ∧ Marks lo w.heap.size w wr)
  case atStart => exact ⟨0, 1, by omega, rfl, rfl, Lib.hid (by omega), Lib.hid (fun b off _ j hj => absurd hj (by omega)), Marks.refl _ _ _⟩
  case round =>
    obtain ⟨k, x, hkq, rfl, rfl, hx, hdone, hmk⟩ := hrel
    by_cases hk0 : k < n
    · have hn0 : 0 < n * 3 := by omega
      have hsh := H.out.sh hz (Nat.le_refl _)
      obtain ⟨b0, off0, e0, hfw, hcw⟩ := hsh hn0
      obtain ⟨b, off, rfl, hf, hc⟩ := (hsh.marks hmk) hn0
      injection e0 with e0
      injection e0 with e1 e2 _
      subst e1 e2
      obtain ⟨z0, r0⟩ := hc (k * 3) (by omega)
      obtain ⟨z1, r1⟩ := hc (k * 3 + 1) (by omega)
      obtain ⟨z2, r2⟩ := hc (k * 3 + 2) (by omega)
      rw [← Nat.add_assoc] at r1 r2
      obtain ⟨y0, R0⟩ := hcw (k * 3) (by omega)
      obtain ⟨y1, R1⟩ := hcw (k * 3 + 1) (by omega)
      obtain ⟨y2, R2⟩ := hcw (k * 3 + 2) (by omega)
      rw [← Nat.add_assoc] at R1 R2
      have f0 := hf.2.2 (off + k * 3)
      have f1 := hf.2.2 (off + k * 3 + 1)
      have f2 := hf.2.2 (off + k * 3 + 2)
      have hf0 := hfw.1
      have hx1 : 0 ≤ x ∧ x ≤ 200000000000000000 := by have := hx.out; omega
      have w0 : IntKind.i64.wrap (x + 1) = x + 1 := IntWalk.i64_in _ (by omega)
      have w1 : IntKind.i64.wrap (x + 1 + 1) = x + 2 := by rw [IntWalk.i64_in _ (by omega)]; omega
      have w2 : IntKind.i64.wrap (x + 2 + 1) = x + 3 := by rw [IntWalk.i64_in _ (by omega)]; omega
      have hR : Hid (∀ j, j < (k + 1) * 3 → (((wr.setCell ⟨b, off + k * 3, none⟩ (.int .i64 x)).setCell ⟨b, off + k * 3 + 1, none⟩ (.int .i64 (x + 1))).setCell ⟨b, off + k * 3 + 2, none⟩ (.int .i64 (x + 2))).cell? ⟨b, off + j, none⟩ = some (.int .i64 (1 + (j : Int)))) := Lib.hid fun j hj => by
        have hx0 := hx.out
        have ne : ∀ i i' : Nat, i ≠ i' → (⟨b, i, none⟩ : Addr) ≠ ⟨b, i', none⟩ := fun i i' h e => by injection e with _ e2 _; exact h e2
        by_cases j2 : j = k * 3 + 2
        · subst j2
          rw [← Nat.add_assoc, World.cell?_setCell_same _ _ _ (by rw [World.cell?_setCell_other _ _ _ _ (ne _ _ (by omega)), World.cell?_setCell_other _ _ _ _ (ne _ _ (by omega))]; exact r2)]
          rw [show x + 2 = 1 + ((k * 3 + 2 : Nat) : Int) by omega]
        · rw [World.cell?_setCell_other _ _ _ _ (ne _ _ (by omega))]
          by_cases j1 : j = k * 3 + 1
          · subst j1
            rw [← Nat.add_assoc, World.cell?_setCell_same _ _ _ (by rw [World.cell?_setCell_other _ _ _ _ (ne _ _ (by omega))]; exact r1)]
            rw [show x + 1 = 1 + ((k * 3 + 1 : Nat) : Int) by omega]
          · rw [World.cell?_setCell_other _ _ _ _ (ne _ _ (by omega))]
            by_cases j0 : j = k * 3
            · subst j0
              rw [World.cell?_setCell_same _ _ _ r0, hx0]
            · rw [World.cell?_setCell_other _ _ _ _ (ne _ _ (by omega))]
              exact hdone.out _ _ rfl j (by omega)
      clear hc hcw hf hfw hsh
      go_wp2_with fail
      go_roundg (gk - 1)
      case rel =>
        refine ⟨k + 1, _, by omega, by go_num, rfl, Lib.hid (by have := hx.out; omega), Lib.hid (fun b' off' e j hj => ?_), ((hmk.put R0 hf0 _).put R1 hf0 _).put R2 hf0 _⟩
        injection e with e
        injection e with e1 e2 _
        subst e1 e2
        exact hR.out j hj
      case measure => omega
    · obtain rfl : k = n := by omega
      go_wp2_with fail
      go_ret
      refine ⟨congrArg (fun z => Ending.returned (.int .i64 z)) hx.out, fun h0 => ?_, hmk⟩
      obtain ⟨b, off, rfl, hs, _⟩ := H.out h0
      exact ⟨b, off, rfl, ⟨hs.ge, Nat.lt_of_lt_of_le hs.lt hmk.size, fun _ i => (hmk.fro b i hs.lt).trans (hs.fre hz i)⟩, hdone.out b off rfl⟩

set_option maxRecDepth 100000 in
set_option maxHeartbeats 3200000 in
theorem heldTES_any (lo : Nat) (A0 : Option Addr) (n cap : Nat) (w : World) (hn : n ≤ 1000) (h : IntsAt lo w A0 (n * 3) (fun j => 1 + (j : Int))) :
    Calls Tryz.prog 21 #[.slice A0 n cap, .int .i64 1] w fun e w' => e = .returned (.int .i64 (1 + ((n * 3 : Nat) : Int))) ∧ w = w' := by
  have H := Lib.hid h
  clear h
  go_enter Tryz.func21, Tryz.ntmps21
  go_wp2_with fail
  go_loopg [1, 5] n (fun q kv iv wr => ∃ (k : Nat) (x : Int), k + q = n ∧ iv = .int .i64 (k : Nat) ∧ kv = .int .i64 x ∧ Hid (x = 1 + ((k * 3 : Nat) : Int)) ∧ w = wr)
  case atStart => exact ⟨0, 1, by omega, rfl, rfl, Lib.hid (by omega), rfl⟩
  case round =>
    obtain ⟨k, x, hkq, rfl, rfl, hx, rfl⟩ := hrel
    by_cases hk0 : k < n
    · obtain ⟨b, off, rfl, hb, r0, r1, r2⟩ := H.out.trio hk0
      have hx0 := hx.out
      rw [show 1 + ((k * 3 : Nat) : Int) = x by omega] at r0
      rw [show 1 + ((k * 3 + 1 : Nat) : Int) = x + 1 by omega] at r1
      rw [show 1 + ((k * 3 + 2 : Nat) : Int) = x + 2 by omega] at r2
      have hx1 : 0 ≤ x ∧ x ≤ 200000000000000000 := by omega
      clear hx0
      have w0 : IntKind.i64.wrap (x + 1) = x + 1 := IntWalk.i64_in _ (by omega)
      have w1 : IntKind.i64.wrap (x + 1 + 1) = x + 2 := by rw [IntWalk.i64_in _ (by omega)]; omega
      have w2 : IntKind.i64.wrap (x + 2 + 1) = x + 3 := by rw [IntWalk.i64_in _ (by omega)]; omega
      have n0 : (x != x) = false := bne_self_eq_false _
      have n1 : (x + 1 != x + 1) = false := bne_self_eq_false _
      have n2 : (x + 2 != x + 2) = false := bne_self_eq_false _
      go_wp2_with fail
      go_roundg (gk - 1)
      case rel => exact ⟨k + 1, _, by omega, by go_num, rfl, Lib.hid (by have := hx.out; omega), rfl⟩
      case measure => omega
    · obtain rfl : k = n := by omega
      go_wp2_with fail
      go_ret
      exact ⟨congrArg (fun z => Ending.returned (.int .i64 z)) hx.out, rfl⟩

end Go.Proofs.YtdeilceakhgjlaaGreat
/-
  TypeErrors: the maths and the program's small callees. (Written by gen_pgte.py.)
-/
namespace Go.Proofs.YtdeilceakhgjlaaGreat
open Go.RowKit Num

/-- What the first k statements assign or sample. -/
def asS (P : Prg) : Nat → (Nat → Bool)
  | 0 => fun _ => false
  | k + 1 => if (P.st k).kind = 2 ∨ (P.st k).kind = 3 then setU (asS P k) (P.st k).var.toNat else asS P k
theorem as_yes {P : Prg} {k : Nat} (h : (P.st k).kind = 2 ∨ (P.st k).kind = 3) : asS P (k + 1) = setU (asS P k) (P.st k).var.toNat := by rw [asS, if_pos h]
theorem as_no {P : Prg} {k : Nat} (h : ¬ ((P.st k).kind = 2 ∨ (P.st k).kind = 3)) : asS P (k + 1) = asS P k := by rw [asS, if_neg h]
theorem as_var {P : Prg} {s : Stm} (h : StOk P s) (hk : s.kind = 2 ∨ s.kind = 3) : 0 ≤ s.var ∧ s.var < (P.nv : Int) := by
  rcases hk with e | e <;> (unfold StOk at h; simp [e] at h; omega)
theorem var_zero {P : Prg} {s : Stm} (h : StOk P s) (hk : Has s.kind) (h2 : s.kind ≠ 2) : s.var = 0 := by
  rcases hk with e | e | e | e
  · exact absurd e h2
  all_goals (unfold StOk Uses at h; simp [e] at h; omega)
/-- The interval of an expression. -/
def ivE (P : Prg) (e : Nat) : Int × Int := rgs P.ex P.vz (e + 1) e
theorem iv_all {P : Prg} {e n : Nat} (h : e < n) : rgs P.ex P.vz n e = ivE P e := by
  have := rgs_stay P.ex P.vz e (n - (e + 1))
  rw [show e + 1 + (n - (e + 1)) = n by omega] at this
  exact this
/-- The problem of a range. -/
def teC (P : Prg) (s : Stm) (r : Int × Int) : Int := if s.kind = 2 then tr (decide (P.vz s.var.toNat ≤ r.2)) else 2 * tr (decide (0 < r.1) || r.2 == 0)
/-- The first variable of a list that is not marked. -/
def fu (a : Nat → Bool) : List Int → Option Int
  | [] => none
  | x :: xs => if a x.toNat then fu a xs else some x
theorem fu_step {a : Nat → Bool} {xs : List Int} {j : Nat} (hj : j < xs.length) (ha : a (xs.getD j 0).toNat = true) : fu a (xs.drop j) = fu a (xs.drop (j + 1)) := by
  rw [List.drop_eq_getElem_cons hj, fu]
  have e : xs.getD j 0 = xs[j] := by simp [List.getD, List.getElem?_eq_getElem hj]
  rw [e] at ha
  rw [if_pos ha]
theorem fu_hit {a : Nat → Bool} {xs : List Int} {j : Nat} (hj : j < xs.length) (ha : a (xs.getD j 0).toNat = false) : fu a (xs.drop j) = some (xs.getD j 0) := by
  rw [List.drop_eq_getElem_cons hj, fu]
  have e : xs.getD j 0 = xs[j] := by simp [List.getD, List.getElem?_eq_getElem hj]
  rw [e] at ha
  rw [if_neg (by rw [ha]; exact Bool.false_ne_true), e]
theorem fu_end {a : Nat → Bool} {xs : List Int} : fu a (xs.drop xs.length) = none := by rw [List.drop_length]; rfl
/-- The variables of a statement's expression. -/
def teX (P : Prg) (k : Nat) : List Int := ups (vI P.ex (P.st k).ex.toNat ((P.st k).ex.toNat + 1)) 5
/-- The problems of a statement, and of the first k, three ints each. -/
def teA (c k v : Int) : List Int := if c = 0 then [] else [c, k, v]
def teB (k : Int) : Option Int → List Int
  | none => []
  | some x => [3, k, x]
open Classical in
noncomputable def teS (P : Prg) : Nat → List Int
  | 0 => []
  | k + 1 => if Has (P.st k).kind then teS P k ++ teA (teC P (P.st k) (ivE P (P.st k).ex.toNat)) k (P.st k).var ++ teB k (fu (asS P P.ns) (teX P k)) else teS P k
theorem te_yes {P : Prg} {k : Nat} (h : Has (P.st k).kind) : teS P (k + 1) = teS P k ++ teA (teC P (P.st k) (ivE P (P.st k).ex.toNat)) k (P.st k).var ++ teB k (fu (asS P P.ns) (teX P k)) := by rw [teS, if_pos h]
theorem te_no {P : Prg} {k : Nat} (h : ¬ Has (P.st k).kind) : teS P (k + 1) = teS P k := by rw [teS, if_neg h]
theorem te_len (P : Prg) : ∀ k, ∃ n, (teS P k).length = n * 3 ∧ n ≤ 2 * k
  | 0 => ⟨0, by rw [teS]; rfl, by omega⟩
  | k + 1 => by
    obtain ⟨n, h1, h2⟩ := te_len P k
    by_cases h : Has (P.st k).kind
    · rw [te_yes h]
      have hA : ∀ c : Int, (teA c k (P.st k).var).length = 0 ∨ (teA c k (P.st k).var).length = 3 := fun c => by
        unfold teA; split
        · exact .inl rfl
        · exact .inr rfl
      have hB : ∀ o, (teB (k : Int) o).length = 0 ∨ (teB (k : Int) o).length = 3 := fun o => by cases o with | none => exact .inl rfl | some x => exact .inr rfl
      simp only [List.length_append]
      rcases hA (teC P (P.st k) (ivE P (P.st k).ex.toNat)) with a | a <;> rcases hB (fu (asS P P.ns) (teX P k)) with b | b <;> rw [a, b]
      · exact ⟨n, by omega, by omega⟩
      · exact ⟨n + 1, by omega, by omega⟩
      · exact ⟨n + 1, by omega, by omega⟩
      · exact ⟨n + 2, by omega, by omega⟩
    · rw [te_no h]; exact ⟨n, h1, by omega⟩

theorem own_stay {w w' : World} {B base size : Nat} {e : TypeId} {v : Value} {n : Nat} {xs : List Value} (h : w.ownsRow base e size v n xs) (hb : Below B w w') (hB : w.heap.size ≤ B) : w'.ownsRow base e size v n xs := by
  refine ⟨h.1, ?_⟩
  rcases h.2 with h2 | ⟨b, cap, cur, rfl, h3, h4, h5⟩
  · exact .inl h2
  · exact .inr ⟨b, cap, cur, rfl, h3, (hb.block b (Nat.lt_of_lt_of_le (heap_lt h4) hB)).trans h4, h5⟩
theorem LsAt.of_own3 {w : World} {base n cap : Nat} {g : Option Addr} {t : TypeId} {xs : List Int} (h : w.ownsRow base t 3 (.slice g n cap) n (cellsL xs)) : n * 3 = xs.length ∧ LsAt base w g xs := by
  have hl : n * 3 = xs.length := by have := h.1; simp only [cellsL, List.length_map] at this; omega
  refine ⟨hl, fun h0 => ?_⟩
  rcases h.2 with ⟨e, h2⟩ | ⟨b, cap', cur, e, h3, h4, h5, h6, h7, h8⟩
  · omega
  · injection e with e1 e2 e3
    subst e1
    have hx : Box w b t cur := h4
    refine ⟨b, 0, rfl, ⟨h3, heap_lt h4, fun _ => hx.free⟩, fun j hj => ?_⟩
    rw [Nat.zero_add, hx.cell, ← Array.getElem?_toList]
    have h9 := congrArg (fun l : List Value => l[j]?) h8
    simp only [List.getElem?_take, if_pos (show j < n * 3 by omega)] at h9
    rw [h9, cellsL, List.getElem?_map, List.getElem?_eq_getElem hj]
    simp [List.getD, List.getElem?_eq_getElem hj]
theorem cell3_new (w : World) (a b c : Value) (t : TypeId) : ∀ j u, [a, b, c][j]? = some u → (w.alloc (.cells #[a, b, c] t)).cell? ((⟨w.heap.size, 0, none⟩ : Addr).add j) = some u := by
  intro j u hj
  rw [addr_add, Nat.zero_add, (Box.new w t #[a, b, c]).cell, ← Array.getElem?_toList]
  exact hj
theorem one3_int (a b c : Int) : ∀ u ∈ [Value.int .i64 a, .int .i64 b, .int .i64 c], u.oneCell' = true := by
  intro u hu
  simp only [List.mem_cons, List.not_mem_nil, or_false] at hu
  rcases hu with rfl | rfl | rfl <;> rfl

set_option maxRecDepth 100000 in
set_option maxHeartbeats 6400000 in
theorem ict_any (a b : Int) (w : World) : Calls Tryz.prog 124 #[.agg #[.int .i64 a, .int .i64 b]] w fun e w' => e = .returned (.bool (decide (0 < a) || b == 0)) ∧ Below w.heap.size w w' := by
  have hA := Box.new w 88 #[.int .i64 a, .int .i64 b]
  have hB := (Below.refl w.heap.size w).alloc (Nat.le_refl _) (.cells #[.int .i64 a, .int .i64 b] 88)
  obtain ⟨a0, a1, af⟩ := hA.duo
  cases hd : decide (0 < a) <;> cases he : (b == 0)
  all_goals go_enter Tryz.func124, Tryz.ntmps124
  all_goals go_wp2_with fail
  all_goals go_ret
  all_goals exact ⟨rfl, hB⟩

set_option maxRecDepth 100000 in
set_option maxHeartbeats 6400000 in
theorem implAsg_any (lo : Nat) (P : Prg) (Av Ax As Ap Ab : Option Addr) (cv cx cs cp cb : Nat) (w : World) (hnv : P.nv ≤ 5) (hns : P.ns ≤ 24) (hst : ∀ j, j < P.ns → StOk P (P.st j)) (h : PgAt lo w Av Ax As Ap Ab P) :
    Calls Tryz.prog 62 #[.agg #[.slice Av P.nv cv, .slice Ax P.nx cx, .slice As P.ns cs, .slice Ap P.np cp, .slice Ab P.nb cb, .int .i64 P.fuel]] w fun e w' => ∃ G ms, e = .returned (.slice (some ⟨G, 0, none⟩) P.nv P.nv) ∧ w.heap.size ≤ G ∧ Box w' G 4 ms ∧ BoolsC ms P.nv (asS P P.ns) ∧ Below w.heap.size w w' := by
  have hP := Box.new w 38 #[.slice Av P.nv cv, .slice Ax P.nx cx, .slice As P.ns cs, .slice Ap P.np cp, .slice Ab P.nb cb, .int .i64 P.fuel]
  have hB := (Below.refl w.heap.size w).alloc (Nat.le_refl _) (.cells #[.slice Av P.nv cv, .slice Ax P.nx cx, .slice As P.ns cs, .slice Ap P.np cp, .slice Ab P.nb cb, .int .i64 P.fuel] 38)
  obtain ⟨q0, q1, q2, q3, q4, q5, qf⟩ := hP.six
  have H := Lib.hid h
  have HST := Lib.hid hst
  clear h hst
  have hmk := mk_bool P.nv (by omega)
  obtain ⟨w1, hw1⟩ : ∃ w1, w1 = w.alloc (.cells #[.slice Av P.nv cv, .slice Ax P.nx cx, .slice As P.ns cs, .slice Ap P.np cp, .slice Ab P.nb cb, .int .i64 P.fuel] 38) := ⟨_, rfl⟩
  have p2 := (hP.alloc (.cells (madeCells #[.bool false] P.nv) 4)).cell 2
  rw [← hw1] at hP hB q0 q1 q2 q3 q4 q5 qf p2
  go_enter Tryz.func62, Tryz.ntmps62
  go_upto_region 1 with fail
  rw [← hw1]
  clear hw1
  go_wp2_with fail
  have hX := Box.new w1 4 (madeCells #[.bool false] P.nv)
  have hB2 := hB.alloc hB.size (.cells (madeCells #[.bool false] P.nv) 4)
  have hP2 := hP.alloc (.cells (madeCells #[.bool false] P.nv) 4)
  obtain ⟨G, hG⟩ : ∃ G, G = w1.heap.size := ⟨_, rfl⟩
  have hPG : w.heap.size ≠ G := by rw [hG]; exact Nat.ne_of_lt hP.lt
  have hGlo : w.heap.size ≤ G := by rw [hG]; exact hB.size
  rw [← hG] at hX ⊢
  obtain ⟨w2, hw2⟩ : ∃ w2, w2 = w1.alloc (.cells (madeCells #[.bool false] P.nv) 4) := ⟨_, rfl⟩
  rw [← hw2] at hX hB2 hP2 ⊢
  clear hP hB hw2 hG hmk q0 q1 q2 q3 q4 q5 qf p2
  go_loopg [13] P.ns (fun q iv wr => ∃ (k : Nat) (ms : Array Value), k + q = P.ns ∧ iv = .int .i64 (k : Nat) ∧ Hid (BoolsC ms P.nv (asS P k)) ∧ Box wr G 4 ms ∧ Box wr w.heap.size 38 #[.slice Av P.nv cv, .slice Ax P.nx cx, .slice As P.ns cs, .slice Ap P.np cp, .slice Ab P.nb cb, .int .i64 P.fuel] ∧ Below w.heap.size w wr)
  case atStart => exact ⟨0, _, by omega, rfl, Lib.hid (BoolsC.falses P.nv), hX, hP2, hB2⟩
  case round =>
    rename World => w4
    obtain ⟨k, ms, hk, rfl, hc, hbx, hP, hB⟩ := hrel
    obtain ⟨q0, q1, q2, q3, q4, q5, qf⟩ := hP.six
    by_cases hk0 : k < P.ns
    · obtain ⟨b, off, A3, c3, A4, c4, A5, c5, rfl, hb, r0, r1, r2, r3, r4, r5, r6, r7, g3, g4, g5⟩ := (H.out.below hB (Nat.le_refl _)).s.at_ hk0
      clear g3 g4 g5
      have hV8 := Box.new w4 67 #[.int .i64 (P.st k).kind, .int .i64 (P.st k).var, .int .i64 (P.st k).ex, .slice A3 (P.st k).nc c3, .slice A4 (P.st k).nt c4, .slice A5 (P.st k).ne c5, .int .i64 (P.st k).times, .int .i64 (P.st k).proc]
      obtain ⟨v0, v1, v2, v3, v4, v5, v6, v7, vf⟩ := hV8.eight
      have hbx5 := hbx.alloc (.cells #[.int .i64 (P.st k).kind, .int .i64 (P.st k).var, .int .i64 (P.st k).ex, .slice A3 (P.st k).nc c3, .slice A4 (P.st k).nt c4, .slice A5 (P.st k).ne c5, .int .i64 (P.st k).times, .int .i64 (P.st k).proc] 67)
      have hP5 := hP.alloc (.cells #[.int .i64 (P.st k).kind, .int .i64 (P.st k).var, .int .i64 (P.st k).ex, .slice A3 (P.st k).nc c3, .slice A4 (P.st k).nt c4, .slice A5 (P.st k).ne c5, .int .i64 (P.st k).times, .int .i64 (P.st k).proc] 67)
      have hB5 := hB.alloc hB.size (.cells #[.int .i64 (P.st k).kind, .int .i64 (P.st k).var, .int .i64 (P.st k).ex, .slice A3 (P.st k).nc c3, .slice A4 (P.st k).nt c4, .slice A5 (P.st k).ne c5, .int .i64 (P.st k).times, .int .i64 (P.st k).proc] 67)
      by_cases h2 : (P.st k).kind = 2
      · have d2 : ((P.st k).kind == 2) = true := by rw [h2]; rfl
        have ha := as_var (HST.out k hk0) (.inl h2)
        obtain ⟨v, hv⟩ : ∃ v : Nat, (P.st k).var = (v : Int) := ⟨(P.st k).var.toNat, by omega⟩
        have hvn : v < P.nv := by omega
        have hvi : (v : Int) < (P.nv : Int) := by omega
        have HS : Hid (asS P (k + 1) = setU (asS P k) v) := Lib.hid (by rw [as_yes (.inl h2), hv, Int.toNat_natCast])
        replace v1 := v1.trans (congrArg (fun z => some (Value.int .i64 z)) hv)
        have k0 := hc.out.at_ hbx5 hvn
        have f0 := hbx5.free v
        clear hv ha
        clear h2
        go_wp2_with fail
        go_roundg (gk - 1)
        case rel => exact ⟨k + 1, _, by omega, by go_num, Lib.hid (by rw [HS.out]; exact hc.out.put hvn), hbx5.set v _, hP5.far (Ne.symm hPG) _ _, hB5.setCell (p := ⟨G, v, none⟩) hGlo _⟩
        case measure => omega
      · have d2 : ((P.st k).kind == 2) = false := beq_false_of_ne h2
        by_cases h3 : (P.st k).kind = 3
        · have d3 : ((P.st k).kind == 3) = true := by rw [h3]; rfl
          have ha := as_var (HST.out k hk0) (.inr h3)
          obtain ⟨v, hv⟩ : ∃ v : Nat, (P.st k).var = (v : Int) := ⟨(P.st k).var.toNat, by omega⟩
          have hvn : v < P.nv := by omega
          have hvi : (v : Int) < (P.nv : Int) := by omega
          have HS : Hid (asS P (k + 1) = setU (asS P k) v) := Lib.hid (by rw [as_yes (.inr h3), hv, Int.toNat_natCast])
          replace v1 := v1.trans (congrArg (fun z => some (Value.int .i64 z)) hv)
          have k0 := hc.out.at_ hbx5 hvn
          have f0 := hbx5.free v
          clear hv ha
          clear h2 h3
          go_wp2_with fail
          go_roundg (gk - 1)
          case rel => exact ⟨k + 1, _, by omega, by go_num, Lib.hid (by rw [HS.out]; exact hc.out.put hvn), hbx5.set v _, hP5.far (Ne.symm hPG) _ _, hB5.setCell (p := ⟨G, v, none⟩) hGlo _⟩
          case measure => omega
        · have d3 : ((P.st k).kind == 3) = false := beq_false_of_ne h3
          have HS : Hid (asS P (k + 1) = asS P k) := Lib.hid (as_no fun h => h.elim h2 h3)
          clear h2 h3
          go_wp2_with fail
          go_roundg (gk - 1)
          case rel => exact ⟨k + 1, _, by omega, by go_num, Lib.hid (by rw [HS.out]; exact hc.out), hbx5, hP5, hB5⟩
          case measure => omega
    · obtain rfl : k = P.ns := by omega
      go_wp2_with fail
      go_ret
      exact ⟨G, ms, rfl, hGlo, hbx, hc.out, hB⟩

theorem exsTe_left {F : Nat → Nat → Int} {m n k : Nat} (h : exsOk F m n = true) (hk : k < n) : exsOk F m (k + 1) = true := by
  by_cases hf : exsOk F m (k + 1) = true
  · exact hf
  · have := exsOk_up (show k + 1 ≤ n by omega) (by simpa using hf)
    rw [this] at h
    cases h
theorem occTe_at (b off cap e m : Nat) (X : Nat → Nat → Int) (w : World) (hx : exsOk X m (e + 1) = true) (hm : m ≤ 5) (hn : e + 1 ≤ 40) (hb : b < w.heap.size) (hc : ∀ j, j < e + 1 → ∀ c, c < 4 → w.cell? ⟨b, off + (j * 4 + c), none⟩ = some (.int .i64 (X j c))) :
    Calls Tryz.prog 125 #[.slice (some ⟨b, off, none⟩) ((e + 1 : Nat)) cap] w fun r W' => ∃ A1 c1, r = .returned (.slice A1 (ups (vI X e (e + 1)) 5).length c1) ∧ LsAt w.heap.size W' A1 (ups (vI X e (e + 1)) 5) ∧ Below w.heap.size w W' :=
  callsIn_wide.1 (occ_in b off cap (e + 1) m X w hx hm (Nat.succ_pos _) hn hb hc)

set_option maxRecDepth 100000 in
set_option maxHeartbeats 6400000 in
theorem implFu_any (lo : Nat) (P : Prg) (Av Ax As Ap Ab : Option Addr) (cv cx cs cp cb : Nat) (e : Nat) (G : Nat) (ms : Array Value) (a : Nat → Bool) (w : World) (hx : exsOk P.ex P.nv P.nx = true) (hnx : P.nx ≤ 40) (hnv : P.nv ≤ 5) (he : e < P.nx) (hcx : P.nx ≤ cx) (h : ExL lo w Ax P.nx P.ex) (hms : BoolsC ms P.nv a) (hbx : Box w G 4 ms) :
    Calls Tryz.prog 65 #[.agg #[.slice Av P.nv cv, .slice Ax P.nx cx, .slice As P.ns cs, .slice Ap P.np cp, .slice Ab P.nb cb, .int .i64 P.fuel], .int .i64 (e : Nat), .slice (some ⟨G, 0, none⟩) P.nv P.nv] w fun r w' => r = .returned (.tuple #[.int .i64 ((fu a (ups (vI P.ex e (e + 1)) 5)).getD 0), .bool (fu a (ups (vI P.ex e (e + 1)) 5)).isSome]) ∧ Below w.heap.size w w' := by
  have hP := Box.new w 38 #[.slice Av P.nv cv, .slice Ax P.nx cx, .slice As P.ns cs, .slice Ap P.np cp, .slice Ab P.nb cb, .int .i64 P.fuel]
  have hB := (Below.refl w.heap.size w).alloc (Nat.le_refl _) (.cells #[.slice Av P.nv cv, .slice Ax P.nx cx, .slice As P.ns cs, .slice Ap P.np cp, .slice Ab P.nb cb, .int .i64 P.fuel] 38)
  obtain ⟨q0, q1, q2, q3, q4, q5, qf⟩ := hP.six
  obtain ⟨xs, hxs⟩ : ∃ xs, xs = ups (vI P.ex e (e + 1)) 5 := ⟨_, rfl⟩
  have hxl : xs.length ≤ 5 := by rw [hxs]; exact ups_le _ _
  have hvl : ∀ j, j < xs.length → ∃ v : Nat, xs.getD j 0 = (v : Int) ∧ v < P.nv := fun j hj => by
    obtain ⟨v, h1, _, h3⟩ := ups_get (u := vI P.ex e (e + 1)) (K := 5) (j := j) (by rw [← hxs]; exact hj)
    exact ⟨v, by rw [hxs]; exact h1, vI_lt hx he h3⟩
  have HVL := Lib.hid hvl
  obtain ⟨bx, offx, rfl, hbb, hcc⟩ := h.1 (show 0 < P.nx by omega)
  have CO := Lib.hid fun W (hW : Below w.heap.size w W) => occTe_at bx offx cx e P.nv P.ex W (exsTe_left hx he) hnv (by omega) (Nat.lt_of_lt_of_le hbb hW.size) (fun j hj c hc => (hW.cell (p := ⟨bx, offx + (j * 4 + c), none⟩) hbb).trans (hcc j (by omega) c hc))
  rw [← hxs] at CO ⊢
  have HM := Lib.hid hms
  have HBX := Lib.hid hbx
  have wi : IntKind.i64.wrap ((e : Int) + 1) = ((e + 1 : Nat) : Int) := by rw [IntWalk.i64_in _ (by omega)]; omega
  have hs1 : ((e + 1 : Nat) : Int) ≤ (cx : Int) := by omega
  have hs2 : ((e + 1 : Nat) : Int) ≤ (P.nx : Int) := by omega
  have hs3 : ¬ (cx = 0) := by omega
  clear h hx hxs hvl hbb hcc hms hbx he hcx
  go_enter Tryz.func65, Tryz.ntmps65
  go_wp2_with (go_at_call 125; refine (CO.out _ hB).mono ?_; rintro r6 w6 ⟨A6, c6, rfl, hl6, hb6⟩)
  have hB6 := hB.trans (hb6.mono hB.size)
  have hbx6 := HBX.out.below hB6 HBX.out.lt
  have hB6' := Lib.hid hB6
  clear q0 q1 q2 q3 q4 q5 qf hP hB hb6 CO
  go_loopg [17] xs.length (fun q iv wr => ∃ j : Nat, j + q = xs.length ∧ iv = .int .i64 (j : Nat) ∧ Hid (fu a xs = fu a (xs.drop j)) ∧ w6 = wr)
  case atStart => exact ⟨0, by omega, rfl, Lib.hid rfl, rfl⟩
  case round =>
    obtain ⟨j, hj, rfl, hfu, rfl⟩ := hrel
    by_cases hj0 : j < xs.length
    · obtain ⟨b7, off7, rfl, hb7, y7⟩ := hl6.at_ hj0
      obtain ⟨v, hv, hvn⟩ := HVL.out j hj0
      have k0 := HM.out.at_ hbx6 hvn
      have hvi : (v : Int) < (P.nv : Int) := by omega
      cases ha : a v with
      | true =>
        have HF : Hid (fu a xs = fu a (xs.drop (j + 1))) := Lib.hid (hfu.out.trans (fu_step hj0 (by rw [hv, Int.toNat_natCast]; exact ha)))
        rw [hv] at y7
        rw [ha] at k0
        clear ha hv
        go_wp2_with fail
        go_roundg (gk - 1)
        case rel => exact ⟨j + 1, by omega, by go_num, HF, rfl⟩
        case measure => omega
      | false =>
        have HF : Hid (fu a xs = some (v : Int)) := Lib.hid (by rw [hfu.out, fu_hit hj0 (by rw [hv, Int.toNat_natCast]; exact ha), hv])
        rw [hv] at y7
        rw [ha] at k0
        clear ha hv hfu
        go_wp2_with fail
        go_ret2
        exact ⟨by rw [HF.out]; rfl, hB6'.out⟩
    · obtain rfl : j = xs.length := by omega
      have HF : Hid (fu a xs = none) := Lib.hid (by rw [hfu.out, fu_end])
      clear hfu
      go_wp2_with fail
      go_ret2
      exact ⟨by rw [HF.out]; rfl, hB6'.out⟩

end Go.Proofs.YtdeilceakhgjlaaGreat
/-
  TypeErrors: the program's. (Written by gen_pgte.py.)
-/
namespace Go.Proofs.YtdeilceakhgjlaaGreat
open Go.RowKit Num

theorem held8g {p0 p1 p2 p3 p4 p5 p6 p7 K : Prop} (h : p0 ∧ p1 ∧ p2 ∧ p3 ∧ p4 ∧ p5 ∧ p6 ∧ p7 ∧ K) : K := h.2.2.2.2.2.2.2.2
theorem Tryz.infoTE : (Tryz.prog.info? 75).map (fun i => (i.zero, i.size, i.bytes)) = some (some (.agg #[.int .i64 0, .int .i64 0, .int .i64 0]), 3, 24) := by kernel_rfl

set_option maxRecDepth 100000 in
set_option maxHeartbeats 6400000 in
theorem implFault_any (lo : Nat) (P : Prg) (Av Ax As Ap Ab : Option Addr) (cv cx cs cp cb : Nat) (k : Nat) (A3 A4 A5 : Option Addr) (c3 c4 c5 : Nat) (x y : Int) (w : World) (hst : StOk P (P.st k)) (hv : VrAt lo w Av P.nv P.vn P.vz) :
    Calls Tryz.prog 64 #[.agg #[.slice Av P.nv cv, .slice Ax P.nx cx, .slice As P.ns cs, .slice Ap P.np cp, .slice Ab P.nb cb, .int .i64 P.fuel], .agg #[.int .i64 (P.st k).kind, .int .i64 (P.st k).var, .int .i64 (P.st k).ex, .slice A3 (P.st k).nc c3, .slice A4 (P.st k).nt c4, .slice A5 (P.st k).ne c5, .int .i64 (P.st k).times, .int .i64 (P.st k).proc], .agg #[.int .i64 x, .int .i64 y]] w fun e w' => e = .returned (.int .i64 (teC P (P.st k) (x, y))) ∧ Below w.heap.size w w' := by
  obtain ⟨w3, hw3⟩ : ∃ w3, w3 = ((w.alloc (.cells #[.slice Av P.nv cv, .slice Ax P.nx cx, .slice As P.ns cs, .slice Ap P.np cp, .slice Ab P.nb cb, .int .i64 P.fuel] 38)).alloc (.cells #[.int .i64 (P.st k).kind, .int .i64 (P.st k).var, .int .i64 (P.st k).ex, .slice A3 (P.st k).nc c3, .slice A4 (P.st k).nt c4, .slice A5 (P.st k).ne c5, .int .i64 (P.st k).times, .int .i64 (P.st k).proc] 67)).alloc (.cells #[.int .i64 x, .int .i64 y] 88) := ⟨_, rfl⟩
  have hP : Box w3 w.heap.size 38 #[.slice Av P.nv cv, .slice Ax P.nx cx, .slice As P.ns cs, .slice Ap P.np cp, .slice Ab P.nb cb, .int .i64 P.fuel] := by rw [hw3]; exact ((Box.new w _ _).alloc _).alloc _
  have hS : Box w3 (w.heap.size + 1) 67 #[.int .i64 (P.st k).kind, .int .i64 (P.st k).var, .int .i64 (P.st k).ex, .slice A3 (P.st k).nc c3, .slice A4 (P.st k).nt c4, .slice A5 (P.st k).ne c5, .int .i64 (P.st k).times, .int .i64 (P.st k).proc] := by
    have := Box.new (w.alloc (.cells #[.slice Av P.nv cv, .slice Ax P.nx cx, .slice As P.ns cs, .slice Ap P.np cp, .slice Ab P.nb cb, .int .i64 P.fuel] 38)) 67 #[.int .i64 (P.st k).kind, .int .i64 (P.st k).var, .int .i64 (P.st k).ex, .slice A3 (P.st k).nc c3, .slice A4 (P.st k).nt c4, .slice A5 (P.st k).ne c5, .int .i64 (P.st k).times, .int .i64 (P.st k).proc]
    rw [World.size_alloc] at this
    rw [hw3]; exact this.alloc _
  have hI : Box w3 (w.heap.size + 2) 88 #[.int .i64 x, .int .i64 y] := by
    have := Box.new ((w.alloc (.cells #[.slice Av P.nv cv, .slice Ax P.nx cx, .slice As P.ns cs, .slice Ap P.np cp, .slice Ab P.nb cb, .int .i64 P.fuel] 38)).alloc (.cells #[.int .i64 (P.st k).kind, .int .i64 (P.st k).var, .int .i64 (P.st k).ex, .slice A3 (P.st k).nc c3, .slice A4 (P.st k).nt c4, .slice A5 (P.st k).ne c5, .int .i64 (P.st k).times, .int .i64 (P.st k).proc] 67)) 88 #[.int .i64 x, .int .i64 y]
    rw [World.size_alloc, World.size_alloc] at this
    rw [hw3]; exact this
  have hB : Below w.heap.size w w3 := by rw [hw3]; exact (((Below.refl _ w).alloc (Nat.le_refl _) _).alloc (by simp) _).alloc (by simp; omega) _
  have hz1 := hP.lt
  have hz2 := hS.lt
  have hz3 := hI.lt
  have CT := Lib.hid fun p W => truth_any p W
  have p0 := hP.cell 0
  have s0 := hS.cell 0
  have s1 := hS.cell 1
  have i1 := hI.cell 1
  have iA := hI.cell 0
  by_cases h2 : (P.st k).kind = 2
  · have d2 : ((P.st k).kind == 2) = true := by rw [h2]; rfl
    have ha := as_var hst (.inl h2)
    obtain ⟨v, hv1⟩ : ∃ v : Nat, (P.st k).var = (v : Int) := ⟨(P.st k).var.toNat, by omega⟩
    obtain ⟨bv, offv, rfl, hbv, u0, u1⟩ := hv.at_ (show v < P.nv by omega)
    have hvi : (v : Int) < (P.nv : Int) := by omega
    have u1' := (hB.cell (p := ⟨bv, offv + v * 2 + 1, none⟩) hbv).trans u1
    have hbv3 := Nat.lt_of_lt_of_le hbv hB.size
    have hc : teC P (P.st k) (x, y) = tr (decide (P.vz v ≤ y)) := by rw [teC, if_pos h2, hv1, Int.toNat_natCast]
    rw [hc]
    have s1' := s1.trans (congrArg (fun z => some (Value.int .i64 z)) hv1)
    have m1 : IntKind.i64.wrap (1 * tr true) = tr true := by decide
    have m0 : IntKind.i64.wrap (1 * tr false) = tr false := by decide
    have hB' := Lib.hid hB
    clear s1 hv u0 u1 hv1 ha hst h2 hc hS hI hP hB
    generalize P.vz v = z at u1' ⊢
    cases hd : decide (z ≤ y)
    all_goals go_enter Tryz.func64, Tryz.ntmps64
    all_goals go_upto_region 2 with fail
    all_goals rw [← hw3]
    all_goals clear hw3
    all_goals
      go_region_held3 (fun w' => w'.cell? ⟨w.heap.size + 2, 1, none⟩ = some (.int .i64 y) ∧ w'.cell? ⟨w.heap.size, 0, none⟩ = some (.slice (some ⟨bv, offv, none⟩) P.nv cv) ∧ w'.cell? ⟨w.heap.size + 1, 1, none⟩ = some (.int .i64 (v : Nat)) ∧ w'.cell? ⟨bv, offv + v * 2 + 1, none⟩ = some (.int .i64 z) ∧ Below w3.heap.size w3 w')
        ((suffices hQ : Below w3.heap.size w3 _ from ⟨(hQ.cell (p := ⟨w.heap.size + 2, 1, none⟩) (hz3)).trans i1, (hQ.cell (p := ⟨w.heap.size, 0, none⟩) (hz1)).trans p0, (hQ.cell (p := ⟨w.heap.size + 1, 1, none⟩) (hz2)).trans s1', (hQ.cell hbv3).trans u1', hQ⟩; first | exact (Below.refl _ w3).drew | exact held4 (by assumption)))
        ((go_at_call 123; refine (CT.out _ _).mono ?_; rintro e w' ⟨rfl, rfl⟩))
    all_goals go_wp2_with fail
    all_goals go_ret
    all_goals exact ⟨rfl, hB'.out.trans ((held4 (by assumption)).mono hB'.out.size)⟩
  · have d2 : ((P.st k).kind == 2) = false := beq_false_of_ne h2
    have hc : teC P (P.st k) (x, y) = 2 * tr (decide (0 < x) || y == 0) := by rw [teC, if_neg h2]
    rw [hc]
    have CI := Lib.hid fun W => ict_any x y W
    have m1 : IntKind.i64.wrap (2 * tr true) = 2 * tr true := by decide
    have m0 : IntKind.i64.wrap (2 * tr false) = 2 * tr false := by decide
    generalize (decide (0 < x) || y == 0) = q at CI ⊢
    have hB' := Lib.hid hB
    clear hv hst h2 hc hS hP hB
    cases q
    all_goals go_enter Tryz.func64, Tryz.ntmps64
    all_goals go_upto_region 3 with fail
    all_goals rw [← hw3]
    all_goals clear hw3
    all_goals go_wp2_with (first
      | (go_at_call 124; refine (CI.out _).mono ?_; rintro e w4 ⟨rfl, hb4⟩)
      | (go_at_call 123; refine (CT.out _ _).mono ?_; rintro e w' ⟨rfl, rfl⟩))
    all_goals go_ret
    all_goals exact ⟨rfl, hB'.out.trans (hb4.mono hB'.out.size)⟩

end Go.Proofs.YtdeilceakhgjlaaGreat
/-
  TypeErrors: the program's walk. (Written by gen_pgte.py.)
-/
namespace Go.Proofs.YtdeilceakhgjlaaGreat
open Go.RowKit Num

theorem holdt6 {p0 p1 p2 p3 p4 p5 K : Prop} (h : p0 ∧ p1 ∧ p2 ∧ p3 ∧ p4 ∧ p5 ∧ K) : K := h.2.2.2.2.2.2
theorem holdt16 {p0 p1 p2 p3 p4 p5 p6 p7 p8 p9 p10 p11 p12 p13 p14 p15 K : Prop} (h : p0 ∧ p1 ∧ p2 ∧ p3 ∧ p4 ∧ p5 ∧ p6 ∧ p7 ∧ p8 ∧ p9 ∧ p10 ∧ p11 ∧ p12 ∧ p13 ∧ p14 ∧ p15 ∧ K) : K := h.2.2.2.2.2.2.2.2.2.2.2.2.2.2.2.2
theorem Box.growT {w w' : World} {g : Nat} {t : TypeId} {cs : Array Value} {row : Option Nat} (h : Box w g t cs) (hg : w.grownBy w' row) (hne : some g ≠ row) : Box w' g t cs := (hg.block g h.lt hne).trans h
set_option maxRecDepth 100000 in
set_option maxHeartbeats 6400000 in
theorem implTe_any1 (lo : Nat) (P : Prg) (Av Ax As Ap Ab : Option Addr) (cv cx cs cp cb : Nat) (w : World) (hs : P.small) (h : PgAt lo w Av Ax As Ap Ab P) (F0 : ¬ PgOk P) :
    Calls Tryz.prog 16 #[.agg #[.slice Av P.nv cv, .slice Ax P.nx cx, .slice As P.ns cs, .slice Ap P.np cp, .slice Ab P.nb cb, .int .i64 P.fuel]] w fun e w' => e = .returned (.tuple #[.slice none 0 0, .bool false]) ∧ Below w.heap.size w w' := by
  have hP := Box.new w 38 #[.slice Av P.nv cv, .slice Ax P.nx cx, .slice As P.ns cs, .slice Ap P.np cp, .slice Ab P.nb cb, .int .i64 P.fuel]
  have hB := (Below.refl w.heap.size w).alloc (Nat.le_refl _) (.cells #[.slice Av P.nv cv, .slice Ax P.nx cx, .slice As P.ns cs, .slice Ap P.np cp, .slice Ab P.nb cb, .int .i64 P.fuel] 38)
  obtain ⟨q0, q1, q2, q3, q4, q5, qf⟩ := hP.six
  have H := Lib.hid h
  have HSM := Lib.hid hs
  have F := Lib.hid F0
  clear F0 h hs
  go_enter Tryz.func16, Tryz.ntmps16
  go_wp2_with (first
      | (go_at_call 60
         refine (implValid_any lo P Av Ax As Ap Ab cv cx cs cp cb _ HSM.out (H.out.below hB (Nat.le_refl _))).mono ?_
         rintro e w1 ⟨r, rfl, hr, hb⟩
         obtain rfl : r = false := by cases r with | false => rfl | true => exact absurd (hr.out.1 rfl) F.out
         clear q0 q1 q2 q3 q4 q5 qf hr
         replace hP := hP.below hb hP.lt
         replace hB := hB.trans (hb.mono hB.size)
         clear hb
         obtain ⟨q0, q1, q2, q3, q4, q5, qf⟩ := hP.six))
  go_ret2
  exact ⟨rfl, hB⟩

set_option maxRecDepth 100000 in
set_option maxHeartbeats 6400000 in
theorem implTe_any2 (lo : Nat) (P : Prg) (Av Ax As Ap Ab : Option Addr) (cv cx cs cp cb : Nat) (w : World) (hs : P.small) (hcx : P.nx ≤ cx) (h : PgAt lo w Av Ax As Ap Ab P) (F0 : PgOk P) :
    Calls Tryz.prog 16 #[.agg #[.slice Av P.nv cv, .slice Ax P.nx cx, .slice As P.ns cs, .slice Ap P.np cp, .slice Ab P.nb cb, .int .i64 P.fuel]] w fun e w' => ∃ A c n, e = .returned (.tuple #[.slice A n c, .bool true]) ∧ n * 3 = (teS P P.ns).length ∧ LsAt w.heap.size w' A (teS P P.ns) ∧ Below w.heap.size w w' := by
  have hP := Box.new w 38 #[.slice Av P.nv cv, .slice Ax P.nx cx, .slice As P.ns cs, .slice Ap P.np cp, .slice Ab P.nb cb, .int .i64 P.fuel]
  have hB := (Below.refl w.heap.size w).alloc (Nat.le_refl _) (.cells #[.slice Av P.nv cv, .slice Ax P.nx cx, .slice As P.ns cs, .slice Ap P.np cp, .slice Ab P.nb cb, .int .i64 P.fuel] 38)
  obtain ⟨q0, q1, q2, q3, q4, q5, qf⟩ := hP.six
  have H := Lib.hid h
  have HSM := Lib.hid hs
  have F := Lib.hid F0
  have hnv : P.nv ≤ 5 := F0.1.2.2
  have hnx := F0.2.1.1
  have hns := F0.2.2.2.1
  have HX := Lib.hid F0.2.1.2
  have HST := Lib.hid F0.2.2.2.2.2.1
  have HVZ := Lib.hid (vals_21 F0)
  have CR := Lib.hid fun W (hw : Below w.heap.size w W) => implRgs_any lo lo Av Ax P.nx cx P.nv cv P.ex P.vn P.vz W HX.out hnx hnv HVZ.out (H.out.below hw (Nat.le_refl _)).x (H.out.below hw (Nat.le_refl _)).v
  have CA := Lib.hid fun W (hw : Below w.heap.size w W) => implAsg_any lo P Av Ax As Ap Ab cv cx cs cp cb W hnv hns HST.out (H.out.below hw (Nat.le_refl _))
  clear F0 h hs
  go_enter Tryz.func16, Tryz.ntmps16
  go_upto_region 3 with (first
      | (go_at_call 60
         refine (implValid_any lo P Av Ax As Ap Ab cv cx cs cp cb _ HSM.out (H.out.below hB (Nat.le_refl _))).mono ?_
         rintro e w1 ⟨r, rfl, hr, hb⟩
         obtain rfl : r = true := hr.out.2 F.out
         clear q0 q1 q2 q3 q4 q5 qf hr
         replace hP := hP.below hb hP.lt
         replace hB := hB.trans (hb.mono hB.size)
         clear hb
         obtain ⟨q0, q1, q2, q3, q4, q5, qf⟩ := hP.six))
  rename World => w1
  have hqm := hP.lt
  have HBB := Lib.hid hB
  go_region_held3 (fun w' => w'.cell? ⟨w.heap.size, 0, none⟩ = some (.slice Av P.nv cv) ∧ w'.cell? ⟨w.heap.size, 1, none⟩ = some (.slice Ax P.nx cx) ∧ w'.cell? ⟨w.heap.size, 2, none⟩ = some (.slice As P.ns cs) ∧ w'.cell? ⟨w.heap.size, 3, none⟩ = some (.slice Ap P.np cp) ∧ w'.cell? ⟨w.heap.size, 4, none⟩ = some (.slice Ab P.nb cb) ∧ w'.cell? ⟨w.heap.size, 5, none⟩ = some (.int .i64 P.fuel) ∧ Below w1.heap.size w1 w')
    ((suffices hQ : Below w1.heap.size w1 _ from ⟨(hQ.cell (p := ⟨w.heap.size, 0, none⟩) hqm).trans q0, (hQ.cell (p := ⟨w.heap.size, 1, none⟩) hqm).trans q1, (hQ.cell (p := ⟨w.heap.size, 2, none⟩) hqm).trans q2, (hQ.cell (p := ⟨w.heap.size, 3, none⟩) hqm).trans q3, (hQ.cell (p := ⟨w.heap.size, 4, none⟩) hqm).trans q4, (hQ.cell (p := ⟨w.heap.size, 5, none⟩) hqm).trans q5, hQ⟩; first | exact (Below.refl _ w1).drew | exact holdt6 (by assumption) | (refine stepB (show Below w1.heap.size w1 _ from holdt6 (by assumption)) ?_; assumption)))
    (first
      | (go_at_call 61; refine (CR.out _ (HBB.out.trans ((show Below w1.heap.size w1 _ from holdt6 (by assumption)).mono HBB.out.size))).mono ?_; rintro e w2 ⟨G1, cs1, rfl, hG1, hb1, hp1, hbl1⟩)
      | (go_at_call 62; refine (CA.out _ (HBB.out.trans ((show Below w1.heap.size w1 _ from holdt6 (by assumption)).mono HBB.out.size))).mono ?_; rintro e W0 ⟨G2, ms2, rfl, hG2, hb2, hm2, hbl2⟩))
  have hQ3 : Below w1.heap.size w1 W0 := holdt6 (by assumption)
  have hb1 := hb1.below hbl2 hb1.lt
  have hP3 := hP.below hQ3 hP.lt
  have hB3 := hB.trans (hQ3.mono hB.size)
  have HM := Lib.hid hm2
  have HP1 := Lib.hid hp1
  have h00 : teS P 0 = [] := by rw [teS]
  clear q0 q1 q2 q3 q4 q5 qf hP hB HBB hQ3 hbl1 hbl2 hG1 hG2 hqm hm2 hp1 CR CA
  obtain ⟨q0, q1, q2, q3, q4, q5, qf⟩ := hP3.six
  obtain ⟨i0, ji, jz0, jz1, jz2⟩ := info_three Tryz.infoTE
  go_wp2_with fail
  clear q0 q1 q2 q3 q4 q5 qf
  go_loopg [6, 25] P.ns (fun q lv iv wr => ∃ (k m : Nat), k + q = P.ns ∧ iv = .int .i64 (k : Nat) ∧ Hid ((teS P k).length = m * 3) ∧ wr.ownsRow W0.heap.size 75 3 lv m (cellsL (teS P k)) ∧ Below W0.heap.size W0 wr)
  case atStart => exact ⟨0, 0, by omega, rfl, Lib.hid (by rw [h00]; rfl), by rw [h00]; exact ⟨rfl, .inl ⟨rfl, rfl⟩⟩, Below.refl _ _⟩
  case round =>
    rename World => w4
    obtain ⟨k, m, hk, rfl, hm, hown, hbel⟩ := hrel
    have hmk : m ≤ 2 * k := by
      obtain ⟨n, h1, h2⟩ := te_len P k
      have := hm.out
      omega
    have hP := hP3.below hbel hP3.lt
    have hB := hB3.trans (hbel.mono hB3.size)
    obtain ⟨q0, q1, q2, q3, q4, q5, qf⟩ := hP.six
    by_cases hk0 : k < P.ns
    · obtain ⟨b, off, A3, c3, A4, c4, A5, c5, rfl, hb, r0, r1, r2, r3, r4, r5, r6, r7, g3, g4, g5⟩ := (H.out.below hB (Nat.le_refl _)).s.at_ hk0
      clear g3 g4 g5
      by_cases hkk : Has (P.st k).kind
      · have HK := Lib.hid hkk
        obtain ⟨e0, e1⟩ := has_ex (HST.out k hk0) hkk
        obtain ⟨e, he⟩ : ∃ e : Nat, (P.st k).ex = (e : Int) := ⟨(P.st k).ex.toNat, by omega⟩
        have hex : e < P.nx := by omega
        have hei : (e : Int) < (P.nx : Int) := by omega
        obtain ⟨xs, hxs⟩ : ∃ xs, xs = ups (vI P.ex e (e + 1)) 5 := ⟨_, rfl⟩
        have HXS := Lib.hid hxs
        obtain ⟨x, hx⟩ : ∃ x, x = (ivE P e).1 := ⟨_, rfl⟩
        obtain ⟨y, hy⟩ : ∃ y, y = (ivE P e).2 := ⟨_, rfl⟩
        obtain ⟨c, hc⟩ : ∃ c, c = teC P (P.st k) (x, y) := ⟨_, rfl⟩
        have HT0 : Hid (teS P (k + 1) = teS P k ++ teA c k (P.st k).var ++ teB k (fu (asS P P.ns) xs)) := Lib.hid (by
          rw [te_yes hkk, teX, he, Int.toNat_natCast, ← hxs, hc, hx, hy])
        have KX : Hid (∀ W, Box W G1 88 cs1 → W.cell? ⟨G1, e * 2, none⟩ = some (.int .i64 x) ∧ W.cell? ⟨G1, e * 2 + 1, none⟩ = some (.int .i64 y)) := Lib.hid fun W hW => by
          have := HP1.out.at_ hW hex
          rw [iv_all hex, ← hx, ← hy] at this
          exact this
        have CF : Hid (∀ W, Below w.heap.size w W → Calls Tryz.prog 64 #[.agg #[.slice Av P.nv cv, .slice Ax P.nx cx, .slice (some ⟨b, off, none⟩) P.ns cs, .slice Ap P.np cp, .slice Ab P.nb cb, .int .i64 P.fuel], .agg #[.int .i64 (P.st k).kind, .int .i64 (P.st k).var, .int .i64 (e : Nat), .slice A3 (P.st k).nc c3, .slice A4 (P.st k).nt c4, .slice A5 (P.st k).ne c5, .int .i64 (P.st k).times, .int .i64 (P.st k).proc], .agg #[.int .i64 x, .int .i64 y]] W fun r w' => r = .returned (.int .i64 c) ∧ Below W.heap.size W w') := Lib.hid fun W hw => by
          have := implFault_any lo P Av Ax (some ⟨b, off, none⟩) Ap Ab cv cx cs cp cb k A3 A4 A5 c3 c4 c5 x y W (HST.out k hk0) (H.out.below hw (Nat.le_refl _)).v
          rw [← hc, he] at this
          exact this
        rw [he] at r2
        have hV8 := Box.new w4 67 #[.int .i64 (P.st k).kind, .int .i64 (P.st k).var, .int .i64 (e : Nat), .slice A3 (P.st k).nc c3, .slice A4 (P.st k).nt c4, .slice A5 (P.st k).ne c5, .int .i64 (P.st k).times, .int .i64 (P.st k).proc]
        obtain ⟨v0, v1, v2, v3, v4, v5, v6, v7, vf⟩ := hV8.eight
        have hne : some w4.heap.size ≠ Value.ownBlock _ := fun z => Nat.lt_irrefl _ (hown.lt _ z.symm).2
        clear hkk e0 e1 he hxs hx hy hc hP
        go_upto_region 9 with (first
          | (go_at_call 63
             refine (implHas_any (P.st k).kind _).mono ?_
             rintro e5 w5 ⟨r, rfl, hr, hb5⟩
             obtain rfl : r = true := hr.out.2 HK.out
             have hbel5 := (hbel.alloc hbel.size (.cells #[.int .i64 (P.st k).kind, .int .i64 (P.st k).var, .int .i64 (e : Nat), .slice A3 (P.st k).nc c3, .slice A4 (P.st k).nt c4, .slice A5 (P.st k).ne c5, .int .i64 (P.st k).times, .int .i64 (P.st k).proc] 67)).trans (hb5.mono (hbel.alloc hbel.size (.cells #[.int .i64 (P.st k).kind, .int .i64 (P.st k).var, .int .i64 (e : Nat), .slice A3 (P.st k).nc c3, .slice A4 (P.st k).nt c4, .slice A5 (P.st k).ne c5, .int .i64 (P.st k).times, .int .i64 (P.st k).proc] 67)).size)
             have hV5 := hV8.below hb5 hV8.lt
             have hown5 := own_stay (hown.alloc (.cells #[.int .i64 (P.st k).kind, .int .i64 (P.st k).var, .int .i64 (e : Nat), .slice A3 (P.st k).nc c3, .slice A4 (P.st k).nt c4, .slice A5 (P.st k).ne c5, .int .i64 (P.st k).times, .int .i64 (P.st k).proc] 67)) hb5 (Nat.le_refl _)
             clear hr hb5 v0 v1 v2 v3 v4 v5 v6 v7 vf q0 q1 q2 q3 q4 q5 qf
             have hP5 := hP3.below hbel5 hP3.lt
             obtain ⟨v0, v1, v2, v3, v4, v5, v6, v7, vf⟩ := hV5.eight
             obtain ⟨q0, q1, q2, q3, q4, q5, qf⟩ := hP5.six))
        have hX1 := hb1.below hbel5 hb1.lt
        obtain ⟨k0, k1⟩ := KX.out _ hX1
        have lP := hP5.lt
        have lV := hV5.lt
        have lX := hX1.lt
        have HB5 := Lib.hid (hB3.trans (hbel5.mono hB3.size))
        go_region_held3 (fun w' => w'.cell? ⟨w.heap.size, 0, none⟩ = some (.slice Av P.nv cv) ∧ w'.cell? ⟨w.heap.size, 1, none⟩ = some (.slice Ax P.nx cx) ∧ w'.cell? ⟨w.heap.size, 2, none⟩ = some (.slice (some ⟨b, off, none⟩) P.ns cs) ∧ w'.cell? ⟨w.heap.size, 3, none⟩ = some (.slice Ap P.np cp) ∧ w'.cell? ⟨w.heap.size, 4, none⟩ = some (.slice Ab P.nb cb) ∧ w'.cell? ⟨w.heap.size, 5, none⟩ = some (.int .i64 P.fuel) ∧ w'.cell? ⟨w4.heap.size, 0, none⟩ = some (.int .i64 (P.st k).kind) ∧ w'.cell? ⟨w4.heap.size, 1, none⟩ = some (.int .i64 (P.st k).var) ∧ w'.cell? ⟨w4.heap.size, 2, none⟩ = some (.int .i64 (e : Nat)) ∧ w'.cell? ⟨w4.heap.size, 3, none⟩ = some (.slice A3 (P.st k).nc c3) ∧ w'.cell? ⟨w4.heap.size, 4, none⟩ = some (.slice A4 (P.st k).nt c4) ∧ w'.cell? ⟨w4.heap.size, 5, none⟩ = some (.slice A5 (P.st k).ne c5) ∧ w'.cell? ⟨w4.heap.size, 6, none⟩ = some (.int .i64 (P.st k).times) ∧ w'.cell? ⟨w4.heap.size, 7, none⟩ = some (.int .i64 (P.st k).proc) ∧ w'.cell? ⟨G1, e * 2, none⟩ = some (.int .i64 x) ∧ w'.cell? ⟨G1, e * 2 + 1, none⟩ = some (.int .i64 y) ∧ Below w5.heap.size w5 w')
          ((suffices hQ : Below w5.heap.size w5 _ from ⟨(hQ.cell (p := ⟨w.heap.size, 0, none⟩) lP).trans q0, (hQ.cell (p := ⟨w.heap.size, 1, none⟩) lP).trans q1, (hQ.cell (p := ⟨w.heap.size, 2, none⟩) lP).trans q2, (hQ.cell (p := ⟨w.heap.size, 3, none⟩) lP).trans q3, (hQ.cell (p := ⟨w.heap.size, 4, none⟩) lP).trans q4, (hQ.cell (p := ⟨w.heap.size, 5, none⟩) lP).trans q5, (hQ.cell (p := ⟨w4.heap.size, 0, none⟩) lV).trans v0, (hQ.cell (p := ⟨w4.heap.size, 1, none⟩) lV).trans v1, (hQ.cell (p := ⟨w4.heap.size, 2, none⟩) lV).trans v2, (hQ.cell (p := ⟨w4.heap.size, 3, none⟩) lV).trans v3, (hQ.cell (p := ⟨w4.heap.size, 4, none⟩) lV).trans v4, (hQ.cell (p := ⟨w4.heap.size, 5, none⟩) lV).trans v5, (hQ.cell (p := ⟨w4.heap.size, 6, none⟩) lV).trans v6, (hQ.cell (p := ⟨w4.heap.size, 7, none⟩) lV).trans v7, (hQ.cell (p := ⟨G1, e * 2, none⟩) lX).trans k0, (hQ.cell (p := ⟨G1, e * 2 + 1, none⟩) lX).trans k1, hQ⟩; first | exact (Below.refl _ w5).drew | exact holdt16 (by assumption) | (refine stepB (show Below w5.heap.size w5 _ from holdt16 (by assumption)) ?_; assumption)))
          ((go_at_call 64; refine (CF.out _ (HB5.out.trans ((show Below w5.heap.size w5 _ from holdt16 (by assumption)).mono HB5.out.size))).mono ?_; rintro e6 w6 ⟨rfl, hb6⟩))
        have hQ6 : Below w5.heap.size w5 w6 := holdt16 (by assumption)
        have hV6 := hV5.below hQ6 hV5.lt
        have hown6 := own_stay hown5 hQ6 (Nat.le_refl _)
        have hbel6 := hbel5.trans (hQ6.mono hbel5.size)
        have hP6 := hP3.below hbel6 hP3.lt
        have hX6 := hb2.below hbel6 hb2.lt
        have hB6 := hB3.trans (hbel6.mono hB3.size)
        have hsz6 := hbel6.size
        clear q0 q1 q2 q3 q4 q5 qf v0 v1 v2 v3 v4 v5 v6 v7 vf k0 k1 lP lV lX HB5 hQ6 hX1 hP5 hV5 CF KX
        obtain ⟨q0, q1, q2, q3, q4, q5, qf⟩ := hP6.six
        obtain ⟨v0, v1, v2, v3, v4, v5, v6, v7, vf⟩ := hV6.eight
        cases hu : fu (asS P P.ns) xs with
        | none =>
          have CU : Hid (∀ W, Below w.heap.size w W → Box W G2 4 ms2 → Calls Tryz.prog 65 #[.agg #[.slice Av P.nv cv, .slice Ax P.nx cx, .slice (some ⟨b, off, none⟩) P.ns cs, .slice Ap P.np cp, .slice Ab P.nb cb, .int .i64 P.fuel], .int .i64 (e : Nat), .slice (some ⟨G2, 0, none⟩) P.nv P.nv] W fun r w' => r = .returned (.tuple #[.int .i64 0, .bool false]) ∧ Below W.heap.size W w') := Lib.hid fun W hw hx => by
            have := implFu_any lo P Av Ax (some ⟨b, off, none⟩) Ap Ab cv cx cs cp cb e G2 ms2 (asS P P.ns) W HX.out hnx hnv hex hcx (H.out.below hw (Nat.le_refl _)).x HM.out hx
            rw [← HXS.out, hu] at this
            exact this
          rw [hu] at HT0
          clear hu
          by_cases hc0 : c = 0
          · have dn : (c != 0) = false := by rw [hc0]; rfl
            have HT : Hid (teS P (k + 1) = teS P k) := Lib.hid (by rw [HT0.out]; simp [teA, teB, hc0])
            clear HT0
            go_wp2_with (first
             | (go_at_call 65
                refine (CU.out _ hB6 hX6).mono ?_
                rintro e8 w8 ⟨rfl, hb8⟩
                have hbel8 := hbel6.trans (hb8.mono hbel6.size)
                have hown8 := own_stay hown6 hb8 (Nat.le_refl _)
                have hsz8 := hbel8.size
                clear v0 v1 v2 v3 v4 v5 v6 v7 vf q0 q1 q2 q3 q4 q5 qf))
            go_roundg (gk - 1)
            case rel => exact ⟨k + 1, m + 0, by omega, by go_num, Lib.hid (by rw [HT.out]; have := hm.out; simp; omega), by rw [HT.out]; exact hown8, hbel8⟩
            case measure => omega
          · have dn : (c != 0) = true := bne_iff_ne.2 hc0
            have HT : Hid (teS P (k + 1) = teS P k ++ [c, (k : Int), (P.st k).var]) := Lib.hid (by rw [HT0.out]; simp [teA, teB, hc0])
            clear HT0
            go_wp2_with (first
             | (at_builtin; refine wpList_append_own _ rfl _ _ 30 rfl W0.heap.size 75 i0 (.agg #[.int .i64 0, .int .i64 0, .int .i64 0]) 3 24 Tryz.underlying30 ji jz0 jz1 jz2 rfl (by decide) _ m _ rfl (hown6.alloc _) ⟨w6.heap.size, 0, none⟩ 1 1 [.int .i64 c, .int .i64 (k : Nat), .int .i64 (P.st k).var] rfl rfl (cell3_new _ _ _ _ _) (one3_int _ _ _) (by unfold maxLen; omega) (by omega) (by simp; omega) ?_; intro lv7 w7 hown7 hgrow7 _
                have hV7 := (hV6.alloc (.cells #[.int .i64 c, .int .i64 (k : Nat), .int .i64 (P.st k).var] 75)).growT hgrow7 hne
                have hbel7 := (hbel6.alloc hbel6.size (.cells #[.int .i64 c, .int .i64 (k : Nat), .int .i64 (P.st k).var] 75)).grown hgrow7 (by simp; omega) (fun r hr => (hown6.lt r hr).1)
                have hP7 := hP3.below hbel7 hP3.lt
                have hX7 := hb2.below hbel7 hb2.lt
                have hB7 := hB3.trans (hbel7.mono hB3.size)
                have hsz7 := hbel7.size
                clear v0 v1 v2 v3 v4 v5 v6 v7 vf q0 q1 q2 q3 q4 q5 qf
                obtain ⟨v0, v1, v2, v3, v4, v5, v6, v7, vf⟩ := hV7.eight
                obtain ⟨q0, q1, q2, q3, q4, q5, qf⟩ := hP7.six)
             | (go_at_call 65
                refine (CU.out _ hB7 hX7).mono ?_
                rintro e8 w8 ⟨rfl, hb8⟩
                have hbel8 := hbel7.trans (hb8.mono hbel7.size)
                have hown8 := own_stay hown7 hb8 (Nat.le_refl _)
                have hsz8 := hbel8.size
                clear v0 v1 v2 v3 v4 v5 v6 v7 vf q0 q1 q2 q3 q4 q5 qf))
            go_roundg (gk - 1)
            case rel => exact ⟨k + 1, m + 1, by omega, by go_num, Lib.hid (by rw [HT.out]; have := hm.out; simp; omega), by rw [HT.out, cellsL_app]; exact hown8, hbel8⟩
            case measure => omega
        | some z =>
          have CU : Hid (∀ W, Below w.heap.size w W → Box W G2 4 ms2 → Calls Tryz.prog 65 #[.agg #[.slice Av P.nv cv, .slice Ax P.nx cx, .slice (some ⟨b, off, none⟩) P.ns cs, .slice Ap P.np cp, .slice Ab P.nb cb, .int .i64 P.fuel], .int .i64 (e : Nat), .slice (some ⟨G2, 0, none⟩) P.nv P.nv] W fun r w' => r = .returned (.tuple #[.int .i64 z, .bool true]) ∧ Below W.heap.size W w') := Lib.hid fun W hw hx => by
            have := implFu_any lo P Av Ax (some ⟨b, off, none⟩) Ap Ab cv cx cs cp cb e G2 ms2 (asS P P.ns) W HX.out hnx hnv hex hcx (H.out.below hw (Nat.le_refl _)).x HM.out hx
            rw [← HXS.out, hu] at this
            exact this
          rw [hu] at HT0
          clear hu
          by_cases hc0 : c = 0
          · have dn : (c != 0) = false := by rw [hc0]; rfl
            have HT : Hid (teS P (k + 1) = teS P k ++ [3, (k : Int), z]) := Lib.hid (by rw [HT0.out]; simp [teA, teB, hc0])
            clear HT0
            go_wp2_with (first
             | (go_at_call 65
                refine (CU.out _ hB6 hX6).mono ?_
                rintro e8 w8 ⟨rfl, hb8⟩
                have hbel8 := hbel6.trans (hb8.mono hbel6.size)
                have hown8 := own_stay hown6 hb8 (Nat.le_refl _)
                have hsz8 := hbel8.size
                clear v0 v1 v2 v3 v4 v5 v6 v7 vf q0 q1 q2 q3 q4 q5 qf)
             | (at_builtin; refine wpList_append_own _ rfl _ _ 30 rfl W0.heap.size 75 i0 (.agg #[.int .i64 0, .int .i64 0, .int .i64 0]) 3 24 Tryz.underlying30 ji jz0 jz1 jz2 rfl (by decide) _ m _ rfl (hown8.alloc _) ⟨w8.heap.size, 0, none⟩ 1 1 [.int .i64 3, .int .i64 (k : Nat), .int .i64 z] rfl rfl (cell3_new _ _ _ _ _) (one3_int _ _ _) (by unfold maxLen; omega) (by omega) (by simp; omega) ?_; intro lv9 w9 hown9 hgrow9 _
                have hbel9 := (hbel8.alloc hbel8.size (.cells #[.int .i64 3, .int .i64 (k : Nat), .int .i64 z] 75)).grown hgrow9 (by simp; omega) (fun r hr => (hown8.lt r hr).1)))
            go_roundg (gk - 1)
            case rel => exact ⟨k + 1, m + 1, by omega, by go_num, Lib.hid (by rw [HT.out]; have := hm.out; simp; omega), by rw [HT.out, cellsL_app]; exact hown9, hbel9⟩
            case measure => omega
          · have dn : (c != 0) = true := bne_iff_ne.2 hc0
            have HT : Hid (teS P (k + 1) = teS P k ++ [c, (k : Int), (P.st k).var] ++ [3, (k : Int), z]) := Lib.hid (by rw [HT0.out]; simp [teA, teB, hc0])
            clear HT0
            go_wp2_with (first
             | (at_builtin; refine wpList_append_own _ rfl _ _ 30 rfl W0.heap.size 75 i0 (.agg #[.int .i64 0, .int .i64 0, .int .i64 0]) 3 24 Tryz.underlying30 ji jz0 jz1 jz2 rfl (by decide) _ m _ rfl (hown6.alloc _) ⟨w6.heap.size, 0, none⟩ 1 1 [.int .i64 c, .int .i64 (k : Nat), .int .i64 (P.st k).var] rfl rfl (cell3_new _ _ _ _ _) (one3_int _ _ _) (by unfold maxLen; omega) (by omega) (by simp; omega) ?_; intro lv7 w7 hown7 hgrow7 _
                have hV7 := (hV6.alloc (.cells #[.int .i64 c, .int .i64 (k : Nat), .int .i64 (P.st k).var] 75)).growT hgrow7 hne
                have hbel7 := (hbel6.alloc hbel6.size (.cells #[.int .i64 c, .int .i64 (k : Nat), .int .i64 (P.st k).var] 75)).grown hgrow7 (by simp; omega) (fun r hr => (hown6.lt r hr).1)
                have hP7 := hP3.below hbel7 hP3.lt
                have hX7 := hb2.below hbel7 hb2.lt
                have hB7 := hB3.trans (hbel7.mono hB3.size)
                have hsz7 := hbel7.size
                clear v0 v1 v2 v3 v4 v5 v6 v7 vf q0 q1 q2 q3 q4 q5 qf
                obtain ⟨v0, v1, v2, v3, v4, v5, v6, v7, vf⟩ := hV7.eight
                obtain ⟨q0, q1, q2, q3, q4, q5, qf⟩ := hP7.six)
             | (go_at_call 65
                refine (CU.out _ hB7 hX7).mono ?_
                rintro e8 w8 ⟨rfl, hb8⟩
                have hbel8 := hbel7.trans (hb8.mono hbel7.size)
                have hown8 := own_stay hown7 hb8 (Nat.le_refl _)
                have hsz8 := hbel8.size
                clear v0 v1 v2 v3 v4 v5 v6 v7 vf q0 q1 q2 q3 q4 q5 qf)
             | (at_builtin; refine wpList_append_own _ rfl _ _ 30 rfl W0.heap.size 75 i0 (.agg #[.int .i64 0, .int .i64 0, .int .i64 0]) 3 24 Tryz.underlying30 ji jz0 jz1 jz2 rfl (by decide) _ (m + 1) _ rfl (hown8.alloc _) ⟨w8.heap.size, 0, none⟩ 1 1 [.int .i64 3, .int .i64 (k : Nat), .int .i64 z] rfl rfl (cell3_new _ _ _ _ _) (one3_int _ _ _) (by unfold maxLen; omega) (by omega) (by simp; omega) ?_; intro lv9 w9 hown9 hgrow9 _
                have hbel9 := (hbel8.alloc hbel8.size (.cells #[.int .i64 3, .int .i64 (k : Nat), .int .i64 z] 75)).grown hgrow9 (by simp; omega) (fun r hr => (hown8.lt r hr).1)))
            go_roundg (gk - 1)
            case rel => exact ⟨k + 1, m + 2, by omega, by go_num, Lib.hid (by rw [HT.out]; have := hm.out; simp; omega), by rw [HT.out, cellsL_app, cellsL_app]; exact hown9, hbel9⟩
            case measure => omega
      · have HK := Lib.hid hkk
        have HT : Hid (teS P (k + 1) = teS P k) := Lib.hid (te_no hkk)
        have hV8 := Box.new w4 67 #[.int .i64 (P.st k).kind, .int .i64 (P.st k).var, .int .i64 (P.st k).ex, .slice A3 (P.st k).nc c3, .slice A4 (P.st k).nt c4, .slice A5 (P.st k).ne c5, .int .i64 (P.st k).times, .int .i64 (P.st k).proc]
        obtain ⟨v0, v1, v2, v3, v4, v5, v6, v7, vf⟩ := hV8.eight
        clear hkk hP
        go_wp2_with (first
          | (go_at_call 63
             refine (implHas_any (P.st k).kind _).mono ?_
             rintro e5 w5 ⟨r, rfl, hr, hb5⟩
             obtain rfl : r = false := by cases r with | false => rfl | true => exact absurd (hr.out.1 rfl) HK.out
             have hbel5 := (hbel.alloc hbel.size (.cells #[.int .i64 (P.st k).kind, .int .i64 (P.st k).var, .int .i64 (P.st k).ex, .slice A3 (P.st k).nc c3, .slice A4 (P.st k).nt c4, .slice A5 (P.st k).ne c5, .int .i64 (P.st k).times, .int .i64 (P.st k).proc] 67)).trans (hb5.mono (hbel.alloc hbel.size (.cells #[.int .i64 (P.st k).kind, .int .i64 (P.st k).var, .int .i64 (P.st k).ex, .slice A3 (P.st k).nc c3, .slice A4 (P.st k).nt c4, .slice A5 (P.st k).ne c5, .int .i64 (P.st k).times, .int .i64 (P.st k).proc] 67)).size)
             have hV5 := hV8.below hb5 hV8.lt
             have hown5 := own_stay (hown.alloc (.cells #[.int .i64 (P.st k).kind, .int .i64 (P.st k).var, .int .i64 (P.st k).ex, .slice A3 (P.st k).nc c3, .slice A4 (P.st k).nt c4, .slice A5 (P.st k).ne c5, .int .i64 (P.st k).times, .int .i64 (P.st k).proc] 67)) hb5 (Nat.le_refl _)
             clear hr hb5 v0 v1 v2 v3 v4 v5 v6 v7 vf q0 q1 q2 q3 q4 q5 qf
             have hP5 := hP3.below hbel5 hP3.lt
             obtain ⟨v0, v1, v2, v3, v4, v5, v6, v7, vf⟩ := hV5.eight
             obtain ⟨q0, q1, q2, q3, q4, q5, qf⟩ := hP5.six))
        go_roundg (gk - 1)
        case rel => exact ⟨k + 1, m, by omega, by go_num, Lib.hid (by rw [HT.out]; exact hm.out), by rw [HT.out]; exact hown5, hbel5⟩
        case measure => omega
    · obtain rfl : k = P.ns := by omega
      rcases hown.2 with ⟨rfl, h0⟩ | ⟨g, cap, cur, rfl, h5⟩
      · go_wp2_with fail
        go_ret2
        exact ⟨none, 0, 0, rfl, by rw [hm.out]; omega, fun h => by have := hm.out; omega, hB⟩
      · have hA := (LsAt.of_own3 hown).2
        go_wp2_with fail
        go_ret2
        exact ⟨_, cap, m, rfl, hm.out.symm, hA.low hB3.size, hB⟩

end Go.Proofs.YtdeilceakhgjlaaGreat
