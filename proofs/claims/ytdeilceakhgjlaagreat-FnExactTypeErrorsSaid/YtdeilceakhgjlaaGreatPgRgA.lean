/-
  Several texts in one: PgRg1, PgRg3, PgRg4.
-/
import Derived.Test.YtdeilceakhgjlaaGreatPgEvA
import Derived.Laws.StructEq
import Derived.Deep.RegionHeld3
/-
  Intervals of expressions: the mathematics, and the program's. (Written by gen_pgrg.py.)
-/
namespace Go.Proofs.YtdeilceakhgjlaaGreat
open Go.RowKit Num

/-- An operator's interval, from its operands'. -/
def opR (o al ah bl bh : Int) : Int × Int :=
  if o = 4 then (opV 4 al bh, opV 4 ah bl) else if o = 6 then (tr (al == bl && ah == bh && al == ah), tr (decide (al ≤ bh) && decide (bl ≤ ah)))
  else if o = 7 ∨ o = 10 then (opV o ah bl, opV o al bh) else (opV o al bl, opV o ah bh)
/-- An expression's interval. -/
def exR (o a b v : Int) (g : Nat → Int × Int) (vz : Nat → Int) : Int × Int :=
  if o = 1 then (v, v) else if o = 2 then (0, vz v.toNat - 1) else opR o (g a.toNat).1 (g a.toNat).2 (g b.toNat).1 (g b.toNat).2
def rgs (F : Nat → Nat → Int) (vz : Nat → Int) : Nat → Nat → Int × Int
  | 0, _ => (0, 0)
  | k + 1, j => if j = k then exR (F k 0) (F k 1) (F k 2) (F k 3) (rgs F vz k) vz else rgs F vz k j
theorem rgs_zero (F : Nat → Nat → Int) (vz : Nat → Int) : rgs F vz 0 = fun _ => (0, 0) := by
  funext j
  rw [rgs]
theorem rgs_succ (F : Nat → Nat → Int) (vz : Nat → Int) (k : Nat) : rgs F vz (k + 1) = fun j => if j = k then exR (F k 0) (F k 1) (F k 2) (F k 3) (rgs F vz k) vz else rgs F vz k j := by
  funext j
  rw [rgs]
def IvOk (p : Int × Int) : Prop := 0 ≤ p.1 ∧ p.1 ≤ p.2 ∧ p.2 ≤ 20
theorem tr_01 (p : Bool) : 0 ≤ tr p ∧ tr p ≤ 1 := by cases p <;> decide
theorem tr_le {p q : Bool} (h : p = true → q = true) : tr p ≤ tr q := by
  cases p with
  | false => exact (tr_01 q).1
  | true => rw [h rfl]; decide
theorem opR_in {o al ah bl bh : Int} (h1 : IvOk (al, ah)) (h2 : IvOk (bl, bh)) (ho : 3 ≤ o ∧ o ≤ 10) : IvOk (opR o al ah bl bh) := by
  obtain ⟨a0, a1, a2⟩ := h1
  obtain ⟨b0, b1, b2⟩ := h2
  dsimp only at a0 a1 a2 b0 b1 b2
  have hm : al * bl ≤ ah * bh := Int.mul_le_mul a1 b1 b0 (by omega)
  have hm0 : 0 ≤ al * bl := Int.mul_nonneg a0 b0
  have hc : o = 3 ∨ o = 4 ∨ o = 5 ∨ o = 6 ∨ o = 7 ∨ o = 8 ∨ o = 9 ∨ o = 10 := by omega
  rcases hc with rfl | rfl | rfl | rfl | rfl | rfl | rfl | rfl
  · show IvOk (min (al + bl) 20, min (ah + bh) 20)
    unfold IvOk; dsimp only; omega
  · show IvOk (max (al - bh) 0, max (ah - bl) 0)
    unfold IvOk; dsimp only; omega
  · show IvOk (min (al * bl) 20, min (ah * bh) 20)
    unfold IvOk; dsimp only; omega
  all_goals
    refine ⟨(tr_01 _).1, tr_le fun h => ?_, Int.le_trans (tr_01 _).2 (by omega)⟩
    simp at h ⊢
    omega
theorem opR_var {o a b v : Int} {g : Nat → Int × Int} {vz : Nat → Int} (o1 : o ≠ 1) (o2 : o ≠ 2) : exR o a b v g vz = opR o (g a.toNat).1 (g a.toNat).2 (g b.toNat).1 (g b.toNat).2 := by rw [exR, if_neg o1, if_neg o2]

theorem IvOk.at_ {p : Int × Int} (h : IvOk p) : (0 ≤ p.1 ∧ p.1 ≤ 20) ∧ 0 ≤ p.2 ∧ p.2 ≤ 20 := by
  obtain ⟨h1, h2, h3⟩ := h
  omega
theorem exR_in {o a b v : Int} {k m : Nat} {g : Nat → Int × Int} {vz : Nat → Int} (ho : exOk o a b v k m = true) (hg : ∀ j, IvOk (g j)) (hv : ∀ j, j < m → 1 ≤ vz j ∧ vz j ≤ 21) : IvOk (exR o a b v g vz) := by
  by_cases o1 : o = 1
  · subst o1
    simp only [exOk, if_true, decide_eq_true_eq] at ho
    simp only [exR, if_true]
    unfold IvOk; dsimp only; omega
  · by_cases o2 : o = 2
    · subst o2
      simp only [exOk, if_neg o1, if_true, decide_eq_true_eq] at ho
      simp only [exR, if_neg o1, if_true]
      have := hv v.toNat (by omega)
      unfold IvOk; dsimp only; omega
    · rw [opR_var o1 o2]
      refine opR_in (hg _) (hg _) ?_
      by_cases o10 : o = 10
      · omega
      · simp only [exOk, if_neg o1, if_neg o2, if_neg o10, decide_eq_true_eq] at ho
        omega
theorem rgs_in {F : Nat → Nat → Int} {vz : Nat → Int} {m n : Nat} (h : exsOk F m n = true) (hv : ∀ j, j < m → 1 ≤ vz j ∧ vz j ≤ 21) : ∀ {k : Nat}, k ≤ n → ∀ j, IvOk (rgs F vz k j)
  | 0, _, j => by rw [rgs_zero]; exact ⟨Int.le_refl 0, Int.le_refl 0, show (0 : Int) ≤ 20 by decide⟩
  | k + 1, hk, j => by
    rw [rgs_succ]
    simp only []
    split
    · exact exR_in (exsOk_at h (by omega)) (rgs_in h hv (by omega)) hv
    · exact rgs_in h hv (by omega) j
theorem Box.duo {w : World} {g : Nat} {t : TypeId} {x y : Value} (h : Box w g t #[x, y]) : w.cell? ⟨g, 0, none⟩ = some x ∧ w.cell? ⟨g, 1, none⟩ = some y ∧ ∀ k, w.frozen? ⟨g, k, none⟩ = false := ⟨h.cell 0, h.cell 1, h.free⟩
theorem Tryz.und_Iv : Tryz.prog.underlying 88 = some (.struct (Tryz.prog.fieldsOf 88)) := by kernel_rfl

theorem Tryz.sih_Iv : Tryz.prog.stoodInHeld 88 = false := by kernel_rfl

theorem Tryz.flds_Iv : ((Tryz.prog.fieldsOf 88).toList.map fun f => (f.name, f.type, f.offset)) = [("least", 3, 0), ("greatest", 3, 1)] := by kernel_rfl

theorem eqfOfIv (a s : Int) (b t : Int) (W : World) : (Op.equalIn 10000 88 (.agg #[.int .i64 a, .int .i64 b]) (.agg #[.int .i64 s, .int .i64 t])).run Tryz.prog W = .ok ((a == s) && (b == t)) W := by
  rw [run_equalIn_agg _ 9999 _ _ _ Tryz.und_Iv Tryz.sih_Iv]
  have hf := Tryz.flds_Iv
  generalize (Tryz.prog.fieldsOf 88).toList = fs at hf ⊢
  obtain ⟨f0, fs, rfl, h0, hf⟩ := List.map_eq_cons_iff.1 hf
  obtain ⟨f1, fs, rfl, h1, hf⟩ := List.map_eq_cons_iff.1 hf
  obtain rfl := List.map_eq_nil_iff.1 hf
  simp only [Prod.mk.injEq] at h0 h1
  obtain ⟨n0, t0, o0⟩ := h0
  obtain ⟨n1, t1, o1⟩ := h1
  simp [Op.eqFields, n0, t0, o0, n1, t1, o1, go_sem]
  repeat' split
  all_goals simp_all

theorem eqlOfIv (a s : Int) (b t : Int) (W : World) : (binOp .eql 88 (.agg #[.int .i64 a, .int .i64 b]) (.agg #[.int .i64 s, .int .i64 t])).run Tryz.prog W = .ok (.bool ((a == s) && (b == t))) W := by
  rw [run_eql_struct, eqfOfIv]; rfl

/-- The result's box is as it began or as it ends. -/
def KeepR (w : World) (R : Nat) (t : TypeId) (x y : Value) (w' : World) : Prop := (Box w' R t #[.int .i64 0, .int .i64 0] ∨ Box w' R t #[x, y]) ∧ Below w.heap.size w w'
theorem KeepR.step {w w1 w2 : World} {R : Nat} {t : TypeId} {x y : Value} (h : KeepR w R t x y w1) (hb : Below w1.heap.size w1 w2) : KeepR w R t x y w2 :=
  ⟨h.1.imp (fun k => k.below hb k.lt) (fun k => k.below hb k.lt), h.2.trans (hb.mono h.2.size)⟩
theorem KeepR.put {w w1 : World} {R : Nat} {t : TypeId} {x y : Value} (h : KeepR w R t x y w1) (hR : w.heap.size ≤ R) : KeepR w R t x y ((w1.setCell ⟨R, 0, none⟩ x).setCell ⟨R, 1, none⟩ y) :=
  ⟨.inr (h.1.elim (fun k => (k.set 0 x).set 1 y) (fun k => (k.set 0 x).set 1 y)), (h.2.setCell (p := ⟨R, 0, none⟩) hR _).setCell (p := ⟨R, 1, none⟩) hR _⟩
theorem hold4r {p0 p1 p2 p3 K : Prop} (h : p0 ∧ p1 ∧ p2 ∧ p3 ∧ K) : K := h.2.2.2.2
/-- The operands' boxes beside it. -/
def KeepQ (w : World) (a0 a1 b0 b1 : Value) (t : TypeId) (x y : Value) (w' : World) : Prop := Box w' w.heap.size t #[a0, a1] ∧ Box w' (w.heap.size + 1) t #[b0, b1] ∧ KeepR w (w.heap.size + 2) t x y w'
theorem KeepQ.step {w w1 w2 : World} {a0 a1 b0 b1 x y : Value} {t : TypeId} (h : KeepQ w a0 a1 b0 b1 t x y w1) (hb : Below w1.heap.size w1 w2) : KeepQ w a0 a1 b0 b1 t x y w2 := ⟨h.1.below hb h.1.lt, h.2.1.below hb h.2.1.lt, h.2.2.step hb⟩
theorem KeepQ.put {w w1 : World} {a0 a1 b0 b1 x y : Value} {t : TypeId} (h : KeepQ w a0 a1 b0 b1 t x y w1) : KeepQ w a0 a1 b0 b1 t x y ((w1.setCell ⟨w.heap.size + 2, 0, none⟩ x).setCell ⟨w.heap.size + 2, 1, none⟩ y) :=
  ⟨(h.1.far (by omega) _ _).far (by omega) _ _, (h.2.1.far (by omega) _ _).far (by omega) _ _, h.2.2.put (by omega)⟩
theorem KeepQ.cells {w w' : World} {a0 a1 b0 b1 x y : Value} {t : TypeId} (h : KeepQ w a0 a1 b0 b1 t x y w') : w'.cell? ⟨w.heap.size, 0, none⟩ = some a0 ∧ w'.cell? ⟨w.heap.size, 1, none⟩ = some a1 ∧ w'.cell? ⟨w.heap.size + 1, 0, none⟩ = some b0 ∧ w'.cell? ⟨w.heap.size + 1, 1, none⟩ = some b1 ∧ KeepQ w a0 a1 b0 b1 t x y w' := ⟨h.1.cell 0, h.1.cell 1, h.2.1.cell 0, h.2.1.cell 1, h⟩

set_option maxRecDepth 100000 in
set_option maxHeartbeats 6400000 in
theorem implRop_any (o al ah bl bh : Int) (w : World) (h1 : IvOk (al, ah)) (h2 : IvOk (bl, bh)) (ho : 3 ≤ o ∧ o ≤ 10) :
    Calls Tryz.prog 122 #[.int .i64 o, .agg #[.int .i64 al, .int .i64 ah], .agg #[.int .i64 bl, .int .i64 bh]] w fun e w' => e = .returned (.agg #[.int .i64 (opR o al ah bl bh).1, .int .i64 (opR o al ah bl bh).2]) ∧ Below w.heap.size w w' := by
  obtain ⟨w3, hw3⟩ : ∃ w3, w3 = ((w.alloc (.cells #[.int .i64 al, .int .i64 ah] 88)).alloc (.cells #[.int .i64 bl, .int .i64 bh] 88)).alloc (.cells #[.int .i64 0, .int .i64 0] 88) := ⟨_, rfl⟩
  have hA : Box w3 w.heap.size 88 #[.int .i64 al, .int .i64 ah] := by rw [hw3]; exact ((Box.new w 88 #[.int .i64 al, .int .i64 ah]).alloc _).alloc _
  have hBx : Box w3 (w.heap.size + 1) 88 #[.int .i64 bl, .int .i64 bh] := by
    have := (Box.new (w.alloc (.cells #[.int .i64 al, .int .i64 ah] 88)) 88 #[.int .i64 bl, .int .i64 bh]).alloc (.cells #[.int .i64 0, .int .i64 0] 88)
    rw [World.size_alloc] at this
    rw [hw3]; exact this
  have hR : Box w3 (w.heap.size + 2) 88 #[.int .i64 0, .int .i64 0] := by
    have := Box.new ((w.alloc (.cells #[.int .i64 al, .int .i64 ah] 88)).alloc (.cells #[.int .i64 bl, .int .i64 bh] 88)) 88 #[.int .i64 0, .int .i64 0]
    rw [World.size_alloc, World.size_alloc] at this
    rw [hw3]; exact this
  have hB : Below w.heap.size w w3 := by rw [hw3]; exact (((Below.refl _ w).alloc (Nat.le_refl _) _).alloc (by simp) _).alloc (by simp; omega) _
  have CT : Hid (∀ p W, _) := Lib.hid fun p W => truth_any p W
  have IA := h1.at_
  have IB := h2.at_
  dsimp only at IA IB
  have CO : Hid (∀ (a b : Int), (0 ≤ a ∧ a ≤ 20) → (0 ≤ b ∧ b ≤ 20) → ∀ W, _) := Lib.hid fun a b ha hb W => implOp_any o a b W ho ha hb
  obtain ⟨a0, a1, af⟩ := hA.duo
  obtain ⟨b0, b1, bf⟩ := hBx.duo
  obtain ⟨r0, r1, rf⟩ := hR.duo
  have hc : o = 6 ∨ o = 4 ∨ o = 7 ∨ o = 10 ∨ o = 3 ∨ o = 5 ∨ o = 8 ∨ o = 9 := by omega
  clear ho h1 h2
  rcases hc with rfl | hc
  · have HE : Hid (opR 6 al ah bl bh = (tr (((al == bl) && (ah == bh)) && (al == ah)), tr (decide (al ≤ bh) && decide (bl ≤ ah)))) := Lib.hid rfl
    have he : ∀ W, _ := fun W => eqlOfIv al bl ah bh W
    clear CO IA IB
    rw [HE.out]
    cases hE : ((al == bl) && (ah == bh)) <;> cases hO : decide (al ≤ bh)
    all_goals
      (rw [hE] at he
       go_enter Tryz.func122, Tryz.ntmps122
       go_upto_region 1 with fail
       rw [← hw3]
       clear hw3
       go_wp2_with (go_at_call 123; refine (CT.out _ _).mono ?_; rintro e w' ⟨rfl, rfl⟩)
       simp only [Bool.true_and, Bool.false_and]
       refine bodyPost_ret (v := .agg #[_, _]) (by simp [results, Tryz.results122, go_sem, ((hR.set 0 _).set 1 _).cell 0, ((hR.set 0 _).set 1 _).cell 1]; done) rfl ⟨rfl, (hB.setCell (p := ⟨w.heap.size + 2, 0, none⟩) (by show w.heap.size ≤ w.heap.size + 2; omega) _).setCell (p := ⟨w.heap.size + 2, 1, none⟩) (by show w.heap.size ≤ w.heap.size + 2; omega) _⟩)
  · rcases hc with rfl | rfl | rfl | rfl | rfl | rfl | rfl
    · have HV : Hid (opR 4 al ah bl bh = (opV 4 al bh, opV 4 ah bl)) := Lib.hid rfl
      have CX := Lib.hid (CO.out al bh IA.1 IB.2)
      have CY := Lib.hid (CO.out ah bl IA.2 IB.1)
      rw [HV.out]
      generalize opV 4 al bh = x at CX ⊢
      generalize opV 4 ah bl = y at CY ⊢
      clear CO IA IB HV
      go_enter Tryz.func122, Tryz.ntmps122
      go_upto_region 6 with fail
      rw [← hw3]
      clear hw3
      have KQ0 : KeepQ w (.int .i64 al) (.int .i64 ah) (.int .i64 bl) (.int .i64 bh) 88 (.int .i64 x) (.int .i64 y) w3 := ⟨hA, hBx, .inl hR, hB⟩
      have HK0 := Lib.hid KQ0
      have hsz := Lib.hid hB.size
      clear KQ0 a0 a1 af b0 b1 bf hA hBx hB
      go_region_held3 (fun w' => w'.cell? ⟨w.heap.size, 0, none⟩ = some (.int .i64 al) ∧ w'.cell? ⟨w.heap.size, 1, none⟩ = some (.int .i64 ah) ∧ w'.cell? ⟨w.heap.size + 1, 0, none⟩ = some (.int .i64 bl) ∧ w'.cell? ⟨w.heap.size + 1, 1, none⟩ = some (.int .i64 bh) ∧ KeepQ w (.int .i64 al) (.int .i64 ah) (.int .i64 bl) (.int .i64 bh) 88 (.int .i64 x) (.int .i64 y) w')
        ((refine KeepQ.cells ?_; first | exact HK0.out.step (Below.refl _ w3).drew | exact hold4r (by assumption) | exact KeepQ.put (hold4r (by assumption))))
        (first
          | (go_at_call 186; with_reducible refine (CX.out _).mono ?_; rintro e w' ⟨rfl, rfl⟩)
          | (go_at_call 186; with_reducible refine (CY.out _).mono ?_; rintro e w' ⟨rfl, rfl⟩))
      have hk8 : KeepQ w (.int .i64 al) (.int .i64 ah) (.int .i64 bl) (.int .i64 bh) 88 (.int .i64 x) (.int .i64 y) _ := hold4r (by assumption)
      go_wp2_with fail
      have hF : Box _ (w.heap.size + 2) 88 #[.int .i64 x, .int .i64 y] := (hR.set 0 (.int .i64 x)).set 1 (.int .i64 y)
      have k0 := (hF.below (Below.refl _ _).drew hF.lt).cell 0
      have k1 := (hF.below (Below.refl _ _).drew hF.lt).cell 1
      exact bodyPost_ret (v := .agg #[.int .i64 x, .int .i64 y]) (by simp [results, Tryz.results122, go_sem, k0, k1]; done) rfl ⟨rfl, hk8.2.2.2⟩
    · have HV : Hid (opR 7 al ah bl bh = (opV 7 ah bl, opV 7 al bh)) := Lib.hid rfl
      have CX := Lib.hid (CO.out ah bl IA.2 IB.1)
      have CY := Lib.hid (CO.out al bh IA.1 IB.2)
      rw [HV.out]
      generalize opV 7 ah bl = x at CX ⊢
      generalize opV 7 al bh = y at CY ⊢
      clear CO IA IB HV
      go_enter Tryz.func122, Tryz.ntmps122
      go_upto_region 9 with fail
      rw [← hw3]
      clear hw3
      have KQ0 : KeepQ w (.int .i64 al) (.int .i64 ah) (.int .i64 bl) (.int .i64 bh) 88 (.int .i64 x) (.int .i64 y) w3 := ⟨hA, hBx, .inl hR, hB⟩
      have HK0 := Lib.hid KQ0
      have hsz := Lib.hid hB.size
      clear KQ0 a0 a1 af b0 b1 bf hA hBx hB
      go_region_held3 (fun w' => w'.cell? ⟨w.heap.size, 0, none⟩ = some (.int .i64 al) ∧ w'.cell? ⟨w.heap.size, 1, none⟩ = some (.int .i64 ah) ∧ w'.cell? ⟨w.heap.size + 1, 0, none⟩ = some (.int .i64 bl) ∧ w'.cell? ⟨w.heap.size + 1, 1, none⟩ = some (.int .i64 bh) ∧ KeepQ w (.int .i64 al) (.int .i64 ah) (.int .i64 bl) (.int .i64 bh) 88 (.int .i64 x) (.int .i64 y) w')
        ((refine KeepQ.cells ?_; first | exact HK0.out.step (Below.refl _ w3).drew | exact hold4r (by assumption) | exact KeepQ.put (hold4r (by assumption))))
        (first
          | (go_at_call 186; with_reducible refine (CX.out _).mono ?_; rintro e w' ⟨rfl, rfl⟩)
          | (go_at_call 186; with_reducible refine (CY.out _).mono ?_; rintro e w' ⟨rfl, rfl⟩))
      have hk8 : KeepQ w (.int .i64 al) (.int .i64 ah) (.int .i64 bl) (.int .i64 bh) 88 (.int .i64 x) (.int .i64 y) _ := hold4r (by assumption)
      go_wp2_with fail
      have hF : Box _ (w.heap.size + 2) 88 #[.int .i64 x, .int .i64 y] := (hR.set 0 (.int .i64 x)).set 1 (.int .i64 y)
      have k0 := (hF.below (Below.refl _ _).drew hF.lt).cell 0
      have k1 := (hF.below (Below.refl _ _).drew hF.lt).cell 1
      exact bodyPost_ret (v := .agg #[.int .i64 x, .int .i64 y]) (by simp [results, Tryz.results122, go_sem, k0, k1]; done) rfl ⟨rfl, hk8.2.2.2⟩
    · have HV : Hid (opR 10 al ah bl bh = (opV 10 ah bl, opV 10 al bh)) := Lib.hid rfl
      have CX := Lib.hid (CO.out ah bl IA.2 IB.1)
      have CY := Lib.hid (CO.out al bh IA.1 IB.2)
      rw [HV.out]
      generalize opV 10 ah bl = x at CX ⊢
      generalize opV 10 al bh = y at CY ⊢
      clear CO IA IB HV
      go_enter Tryz.func122, Tryz.ntmps122
      go_upto_region 9 with fail
      rw [← hw3]
      clear hw3
      have KQ0 : KeepQ w (.int .i64 al) (.int .i64 ah) (.int .i64 bl) (.int .i64 bh) 88 (.int .i64 x) (.int .i64 y) w3 := ⟨hA, hBx, .inl hR, hB⟩
      have HK0 := Lib.hid KQ0
      have hsz := Lib.hid hB.size
      clear KQ0 a0 a1 af b0 b1 bf hA hBx hB
      go_region_held3 (fun w' => w'.cell? ⟨w.heap.size, 0, none⟩ = some (.int .i64 al) ∧ w'.cell? ⟨w.heap.size, 1, none⟩ = some (.int .i64 ah) ∧ w'.cell? ⟨w.heap.size + 1, 0, none⟩ = some (.int .i64 bl) ∧ w'.cell? ⟨w.heap.size + 1, 1, none⟩ = some (.int .i64 bh) ∧ KeepQ w (.int .i64 al) (.int .i64 ah) (.int .i64 bl) (.int .i64 bh) 88 (.int .i64 x) (.int .i64 y) w')
        ((refine KeepQ.cells ?_; first | exact HK0.out.step (Below.refl _ w3).drew | exact hold4r (by assumption) | exact KeepQ.put (hold4r (by assumption))))
        (first
          | (go_at_call 186; with_reducible refine (CX.out _).mono ?_; rintro e w' ⟨rfl, rfl⟩)
          | (go_at_call 186; with_reducible refine (CY.out _).mono ?_; rintro e w' ⟨rfl, rfl⟩))
      have hk8 : KeepQ w (.int .i64 al) (.int .i64 ah) (.int .i64 bl) (.int .i64 bh) 88 (.int .i64 x) (.int .i64 y) _ := hold4r (by assumption)
      go_wp2_with fail
      have hF : Box _ (w.heap.size + 2) 88 #[.int .i64 x, .int .i64 y] := (hR.set 0 (.int .i64 x)).set 1 (.int .i64 y)
      have k0 := (hF.below (Below.refl _ _).drew hF.lt).cell 0
      have k1 := (hF.below (Below.refl _ _).drew hF.lt).cell 1
      exact bodyPost_ret (v := .agg #[.int .i64 x, .int .i64 y]) (by simp [results, Tryz.results122, go_sem, k0, k1]; done) rfl ⟨rfl, hk8.2.2.2⟩
    · have HV : Hid (opR 3 al ah bl bh = (opV 3 al bl, opV 3 ah bh)) := Lib.hid rfl
      have CX := Lib.hid (CO.out al bl IA.1 IB.1)
      have CY := Lib.hid (CO.out ah bh IA.2 IB.2)
      rw [HV.out]
      generalize opV 3 al bl = x at CX ⊢
      generalize opV 3 ah bh = y at CY ⊢
      clear CO IA IB HV
      go_enter Tryz.func122, Tryz.ntmps122
      go_upto_region 10 with fail
      rw [← hw3]
      clear hw3
      have KQ0 : KeepQ w (.int .i64 al) (.int .i64 ah) (.int .i64 bl) (.int .i64 bh) 88 (.int .i64 x) (.int .i64 y) w3 := ⟨hA, hBx, .inl hR, hB⟩
      have HK0 := Lib.hid KQ0
      have hsz := Lib.hid hB.size
      clear KQ0 a0 a1 af b0 b1 bf hA hBx hB
      go_region_held3 (fun w' => w'.cell? ⟨w.heap.size, 0, none⟩ = some (.int .i64 al) ∧ w'.cell? ⟨w.heap.size, 1, none⟩ = some (.int .i64 ah) ∧ w'.cell? ⟨w.heap.size + 1, 0, none⟩ = some (.int .i64 bl) ∧ w'.cell? ⟨w.heap.size + 1, 1, none⟩ = some (.int .i64 bh) ∧ KeepQ w (.int .i64 al) (.int .i64 ah) (.int .i64 bl) (.int .i64 bh) 88 (.int .i64 x) (.int .i64 y) w')
        ((refine KeepQ.cells ?_; first | exact HK0.out.step (Below.refl _ w3).drew | exact hold4r (by assumption) | exact KeepQ.put (hold4r (by assumption))))
        (first
          | (go_at_call 186; with_reducible refine (CX.out _).mono ?_; rintro e w' ⟨rfl, rfl⟩)
          | (go_at_call 186; with_reducible refine (CY.out _).mono ?_; rintro e w' ⟨rfl, rfl⟩))
      have hk8 : KeepQ w (.int .i64 al) (.int .i64 ah) (.int .i64 bl) (.int .i64 bh) 88 (.int .i64 x) (.int .i64 y) _ := hold4r (by assumption)
      go_wp2_with fail
      have hF : Box _ (w.heap.size + 2) 88 #[.int .i64 x, .int .i64 y] := (hR.set 0 (.int .i64 x)).set 1 (.int .i64 y)
      have k0 := (hF.below (Below.refl _ _).drew hF.lt).cell 0
      have k1 := (hF.below (Below.refl _ _).drew hF.lt).cell 1
      exact bodyPost_ret (v := .agg #[.int .i64 x, .int .i64 y]) (by simp [results, Tryz.results122, go_sem, k0, k1]; done) rfl ⟨rfl, hk8.2.2.2⟩
    · have HV : Hid (opR 5 al ah bl bh = (opV 5 al bl, opV 5 ah bh)) := Lib.hid rfl
      have CX := Lib.hid (CO.out al bl IA.1 IB.1)
      have CY := Lib.hid (CO.out ah bh IA.2 IB.2)
      rw [HV.out]
      generalize opV 5 al bl = x at CX ⊢
      generalize opV 5 ah bh = y at CY ⊢
      clear CO IA IB HV
      go_enter Tryz.func122, Tryz.ntmps122
      go_upto_region 10 with fail
      rw [← hw3]
      clear hw3
      have KQ0 : KeepQ w (.int .i64 al) (.int .i64 ah) (.int .i64 bl) (.int .i64 bh) 88 (.int .i64 x) (.int .i64 y) w3 := ⟨hA, hBx, .inl hR, hB⟩
      have HK0 := Lib.hid KQ0
      have hsz := Lib.hid hB.size
      clear KQ0 a0 a1 af b0 b1 bf hA hBx hB
      go_region_held3 (fun w' => w'.cell? ⟨w.heap.size, 0, none⟩ = some (.int .i64 al) ∧ w'.cell? ⟨w.heap.size, 1, none⟩ = some (.int .i64 ah) ∧ w'.cell? ⟨w.heap.size + 1, 0, none⟩ = some (.int .i64 bl) ∧ w'.cell? ⟨w.heap.size + 1, 1, none⟩ = some (.int .i64 bh) ∧ KeepQ w (.int .i64 al) (.int .i64 ah) (.int .i64 bl) (.int .i64 bh) 88 (.int .i64 x) (.int .i64 y) w')
        ((refine KeepQ.cells ?_; first | exact HK0.out.step (Below.refl _ w3).drew | exact hold4r (by assumption) | exact KeepQ.put (hold4r (by assumption))))
        (first
          | (go_at_call 186; with_reducible refine (CX.out _).mono ?_; rintro e w' ⟨rfl, rfl⟩)
          | (go_at_call 186; with_reducible refine (CY.out _).mono ?_; rintro e w' ⟨rfl, rfl⟩))
      have hk8 : KeepQ w (.int .i64 al) (.int .i64 ah) (.int .i64 bl) (.int .i64 bh) 88 (.int .i64 x) (.int .i64 y) _ := hold4r (by assumption)
      go_wp2_with fail
      have hF : Box _ (w.heap.size + 2) 88 #[.int .i64 x, .int .i64 y] := (hR.set 0 (.int .i64 x)).set 1 (.int .i64 y)
      have k0 := (hF.below (Below.refl _ _).drew hF.lt).cell 0
      have k1 := (hF.below (Below.refl _ _).drew hF.lt).cell 1
      exact bodyPost_ret (v := .agg #[.int .i64 x, .int .i64 y]) (by simp [results, Tryz.results122, go_sem, k0, k1]; done) rfl ⟨rfl, hk8.2.2.2⟩
    · have HV : Hid (opR 8 al ah bl bh = (opV 8 al bl, opV 8 ah bh)) := Lib.hid rfl
      have CX := Lib.hid (CO.out al bl IA.1 IB.1)
      have CY := Lib.hid (CO.out ah bh IA.2 IB.2)
      rw [HV.out]
      generalize opV 8 al bl = x at CX ⊢
      generalize opV 8 ah bh = y at CY ⊢
      clear CO IA IB HV
      go_enter Tryz.func122, Tryz.ntmps122
      go_upto_region 10 with fail
      rw [← hw3]
      clear hw3
      have KQ0 : KeepQ w (.int .i64 al) (.int .i64 ah) (.int .i64 bl) (.int .i64 bh) 88 (.int .i64 x) (.int .i64 y) w3 := ⟨hA, hBx, .inl hR, hB⟩
      have HK0 := Lib.hid KQ0
      have hsz := Lib.hid hB.size
      clear KQ0 a0 a1 af b0 b1 bf hA hBx hB
      go_region_held3 (fun w' => w'.cell? ⟨w.heap.size, 0, none⟩ = some (.int .i64 al) ∧ w'.cell? ⟨w.heap.size, 1, none⟩ = some (.int .i64 ah) ∧ w'.cell? ⟨w.heap.size + 1, 0, none⟩ = some (.int .i64 bl) ∧ w'.cell? ⟨w.heap.size + 1, 1, none⟩ = some (.int .i64 bh) ∧ KeepQ w (.int .i64 al) (.int .i64 ah) (.int .i64 bl) (.int .i64 bh) 88 (.int .i64 x) (.int .i64 y) w')
        ((refine KeepQ.cells ?_; first | exact HK0.out.step (Below.refl _ w3).drew | exact hold4r (by assumption) | exact KeepQ.put (hold4r (by assumption))))
        (first
          | (go_at_call 186; with_reducible refine (CX.out _).mono ?_; rintro e w' ⟨rfl, rfl⟩)
          | (go_at_call 186; with_reducible refine (CY.out _).mono ?_; rintro e w' ⟨rfl, rfl⟩))
      have hk8 : KeepQ w (.int .i64 al) (.int .i64 ah) (.int .i64 bl) (.int .i64 bh) 88 (.int .i64 x) (.int .i64 y) _ := hold4r (by assumption)
      go_wp2_with fail
      have hF : Box _ (w.heap.size + 2) 88 #[.int .i64 x, .int .i64 y] := (hR.set 0 (.int .i64 x)).set 1 (.int .i64 y)
      have k0 := (hF.below (Below.refl _ _).drew hF.lt).cell 0
      have k1 := (hF.below (Below.refl _ _).drew hF.lt).cell 1
      exact bodyPost_ret (v := .agg #[.int .i64 x, .int .i64 y]) (by simp [results, Tryz.results122, go_sem, k0, k1]; done) rfl ⟨rfl, hk8.2.2.2⟩
    · have HV : Hid (opR 9 al ah bl bh = (opV 9 al bl, opV 9 ah bh)) := Lib.hid rfl
      have CX := Lib.hid (CO.out al bl IA.1 IB.1)
      have CY := Lib.hid (CO.out ah bh IA.2 IB.2)
      rw [HV.out]
      generalize opV 9 al bl = x at CX ⊢
      generalize opV 9 ah bh = y at CY ⊢
      clear CO IA IB HV
      go_enter Tryz.func122, Tryz.ntmps122
      go_upto_region 10 with fail
      rw [← hw3]
      clear hw3
      have KQ0 : KeepQ w (.int .i64 al) (.int .i64 ah) (.int .i64 bl) (.int .i64 bh) 88 (.int .i64 x) (.int .i64 y) w3 := ⟨hA, hBx, .inl hR, hB⟩
      have HK0 := Lib.hid KQ0
      have hsz := Lib.hid hB.size
      clear KQ0 a0 a1 af b0 b1 bf hA hBx hB
      go_region_held3 (fun w' => w'.cell? ⟨w.heap.size, 0, none⟩ = some (.int .i64 al) ∧ w'.cell? ⟨w.heap.size, 1, none⟩ = some (.int .i64 ah) ∧ w'.cell? ⟨w.heap.size + 1, 0, none⟩ = some (.int .i64 bl) ∧ w'.cell? ⟨w.heap.size + 1, 1, none⟩ = some (.int .i64 bh) ∧ KeepQ w (.int .i64 al) (.int .i64 ah) (.int .i64 bl) (.int .i64 bh) 88 (.int .i64 x) (.int .i64 y) w')
        ((refine KeepQ.cells ?_; first | exact HK0.out.step (Below.refl _ w3).drew | exact hold4r (by assumption) | exact KeepQ.put (hold4r (by assumption))))
        (first
          | (go_at_call 186; with_reducible refine (CX.out _).mono ?_; rintro e w' ⟨rfl, rfl⟩)
          | (go_at_call 186; with_reducible refine (CY.out _).mono ?_; rintro e w' ⟨rfl, rfl⟩))
      have hk8 : KeepQ w (.int .i64 al) (.int .i64 ah) (.int .i64 bl) (.int .i64 bh) 88 (.int .i64 x) (.int .i64 y) _ := hold4r (by assumption)
      go_wp2_with fail
      have hF : Box _ (w.heap.size + 2) 88 #[.int .i64 x, .int .i64 y] := (hR.set 0 (.int .i64 x)).set 1 (.int .i64 y)
      have k0 := (hF.below (Below.refl _ _).drew hF.lt).cell 0
      have k1 := (hF.below (Below.refl _ _).drew hF.lt).cell 1
      exact bodyPost_ret (v := .agg #[.int .i64 x, .int .i64 y]) (by simp [results, Tryz.results122, go_sem, k0, k1]; done) rfl ⟨rfl, hk8.2.2.2⟩

end Go.Proofs.YtdeilceakhgjlaaGreat
/-
  Intervals of expressions: the model's operators. (Written by gen_pgrg3.py.)
-/
namespace Go.Proofs.YtdeilceakhgjlaaGreat
open Go.RowKit Num

set_option maxRecDepth 100000 in
set_option maxHeartbeats 6400000 in
theorem known_any (p : Bool) (w : World) : Calls Tryz.prog 171 #[.bool p] w fun e w' => e = .returned (.agg #[.int .i64 (tr p), .int .i64 (tr p)]) ∧ Below w.heap.size w w' := by
  obtain ⟨w1, hw1⟩ : ∃ w1, w1 = w.alloc (.cells #[.int .i64 0, .int .i64 0] 70) := ⟨_, rfl⟩
  have hR : Box w1 w.heap.size 70 #[.int .i64 0, .int .i64 0] := by rw [hw1]; exact Box.new w 70 #[.int .i64 0, .int .i64 0]
  have hB : Below w.heap.size w w1 := by rw [hw1]; exact (Below.refl _ w).alloc (Nat.le_refl _) _
  have CB : Hid (∀ p W, _) := Lib.hid fun p W => bool3_any p W
  obtain ⟨r0, r1, rf⟩ := hR.duo
  go_enter Tryz.func171, Tryz.ntmps171
  go_upto_region 1 with fail
  rw [← hw1]
  clear hw1
  go_wp2_with (go_at_call 204; refine (CB.out _ _).mono ?_; rintro e w' ⟨rfl, rfl⟩)
  have hF := (hR.set 0 (.int .i64 (tr p))).set 1 (.int .i64 (tr p))
  have k0 := hF.cell 0
  have k1 := hF.cell 1
  exact bodyPost_ret (v := .agg #[.int .i64 (tr p), .int .i64 (tr p)]) (by simp [results, Tryz.results171, go_sem, k0, k1]; done) rfl ⟨rfl, (hB.setCell (p := ⟨w.heap.size, 0, none⟩) (by show w.heap.size ≤ w.heap.size; omega) _).setCell (p := ⟨w.heap.size, 1, none⟩) (by show w.heap.size ≤ w.heap.size; omega) _⟩

set_option maxRecDepth 100000 in
set_option maxHeartbeats 6400000 in
theorem yes_any (a b : Int) (w : World) : Calls Tryz.prog 53 #[.agg #[.int .i64 a, .int .i64 b]] w fun e w' => e = .returned (.bool (decide (0 < a))) ∧ Below w.heap.size w w' := by
  have hA := Box.new w 70 #[.int .i64 a, .int .i64 b]
  have hB := (Below.refl w.heap.size w).alloc (Nat.le_refl _) (.cells #[.int .i64 a, .int .i64 b] 70)
  obtain ⟨a0, a1, af⟩ := hA.duo
  cases hd : decide (0 < a)
  all_goals go_enter Tryz.func53, Tryz.ntmps53
  all_goals go_wp2_with fail
  all_goals go_ret
  all_goals exact ⟨rfl, hB⟩

set_option maxRecDepth 100000 in
set_option maxHeartbeats 6400000 in
theorem no_any (a b : Int) (w : World) : Calls Tryz.prog 54 #[.agg #[.int .i64 a, .int .i64 b]] w fun e w' => e = .returned (.bool (b == 0)) ∧ Below w.heap.size w w' := by
  have hA := Box.new w 70 #[.int .i64 a, .int .i64 b]
  have hB := (Below.refl w.heap.size w).alloc (Nat.le_refl _) (.cells #[.int .i64 a, .int .i64 b] 70)
  obtain ⟨a0, a1, af⟩ := hA.duo
  cases hd : (b == 0)
  all_goals go_enter Tryz.func54, Tryz.ntmps54
  all_goals go_wp2_with fail
  all_goals go_ret
  all_goals exact ⟨rfl, hB⟩

theorem opR6 (al ah bl bh : Int) (p q : Bool) (hp : (al == bl && ah == bh && al == ah) = p) (hq : (decide (al ≤ bh) && decide (bl ≤ ah)) = q) : opR 6 al ah bl bh = (tr p, tr q) := by rw [← hp, ← hq]; rfl
theorem opR7 (al ah bl bh : Int) (p q : Bool) (hp : decide (ah < bl) = p) (hq : decide (al < bh) = q) : opR 7 al ah bl bh = (tr p, tr q) := by rw [← hp, ← hq]; rfl
theorem opR8 (al ah bl bh : Int) (p q : Bool) (hp : (al != 0 && bl != 0) = p) (hq : (ah != 0 && bh != 0) = q) : opR 8 al ah bl bh = (tr p, tr q) := by rw [← hp, ← hq]; rfl
theorem opR9 (al ah bl bh : Int) (p q : Bool) (hp : (al != 0 || bl != 0) = p) (hq : (ah != 0 || bh != 0) = q) : opR 9 al ah bl bh = (tr p, tr q) := by rw [← hp, ← hq]; rfl
theorem opR10 (al ah bl bh : Int) (p q : Bool) (hp : (ah == 0) = p) (hq : (al == 0) = q) : opR 10 al ah bl bh = (tr p, tr q) := by rw [← hp, ← hq]; rfl

set_option maxRecDepth 100000 in
set_option maxHeartbeats 6400000 in
theorem compare5_any (o al ah bl bh : Int) (w : World) (h1 : IvOk (al, ah)) (h2 : IvOk (bl, bh)) (ho : o = 6 ∨ o = 7) :
    Calls Tryz.prog 174 #[.int .i64 o, .agg #[.int .i64 al, .int .i64 ah], .agg #[.int .i64 bl, .int .i64 bh]] w fun e w' => e = .returned (.agg #[.int .i64 (opR o al ah bl bh).1, .int .i64 (opR o al ah bl bh).2]) ∧ Below w.heap.size w w' := by
  obtain ⟨w3, hw3⟩ : ∃ w3, w3 = ((w.alloc (.cells #[.int .i64 al, .int .i64 ah] 70)).alloc (.cells #[.int .i64 bl, .int .i64 bh] 70)).alloc (.cells #[.int .i64 0, .int .i64 0] 70) := ⟨_, rfl⟩
  have hA : Box w3 w.heap.size 70 #[.int .i64 al, .int .i64 ah] := by rw [hw3]; exact ((Box.new w 70 #[.int .i64 al, .int .i64 ah]).alloc _).alloc _
  have hBx : Box w3 (w.heap.size + 1) 70 #[.int .i64 bl, .int .i64 bh] := by
    have := (Box.new (w.alloc (.cells #[.int .i64 al, .int .i64 ah] 70)) 70 #[.int .i64 bl, .int .i64 bh]).alloc (.cells #[.int .i64 0, .int .i64 0] 70)
    rw [World.size_alloc] at this
    rw [hw3]; exact this
  have hR : Box w3 (w.heap.size + 2) 70 #[.int .i64 0, .int .i64 0] := by
    have := Box.new ((w.alloc (.cells #[.int .i64 al, .int .i64 ah] 70)).alloc (.cells #[.int .i64 bl, .int .i64 bh] 70)) 70 #[.int .i64 0, .int .i64 0]
    rw [World.size_alloc, World.size_alloc] at this
    rw [hw3]; exact this
  have hB : Below w.heap.size w w3 := by rw [hw3]; exact (((Below.refl _ w).alloc (Nat.le_refl _) _).alloc (by simp) _).alloc (by simp; omega) _
  have CK : Hid (∀ p W, _) := Lib.hid fun p W => known_any p W
  obtain ⟨a0, a1, af⟩ := hA.duo
  obtain ⟨b0, b1, bf⟩ := hBx.duo
  obtain ⟨r0, r1, rf⟩ := hR.duo
  obtain ⟨i1, i2, i3⟩ := h1
  obtain ⟨j1, j2, j3⟩ := h2
  dsimp only at i1 i2 i3 j1 j2 j3
  rcases ho with rfl | rfl
  · skip
    by_cases hz4 : ah < bl
    · skip
      have c1 : decide (ah < bl) = true := decide_eq_true (by omega)
      have HV : opR 6 al ah bl bh = (tr false, tr false) := opR6 al ah bl bh _ _ (Bool.eq_false_iff.2 fun h => by first | (simp at h; done) | (simp at h; omega)) (Bool.eq_false_iff.2 fun h => by first | (simp at h; done) | (simp at h; omega))
      rw [HV]
      clear HV i1 i2 i3 j1 j2 j3
      try clear hz4
      try clear hz6
      try clear hz8
      try clear hz10
      go_enter Tryz.func174, Tryz.ntmps174
      go_upto_region 1 with fail
      rw [← hw3]
      clear hw3
      go_wp2_with ((go_at_call 171; refine (CK.out _ _).mono ?_; rintro e w' ⟨rfl, hb⟩; clear a0 a1 af b0 b1 bf r0 r1 rf; replace hA := hA.below hb hA.lt; replace hBx := hBx.below hb hBx.lt; replace hR := hR.below hb hR.lt; replace hB := hB.trans (hb.mono hB.size); obtain ⟨a0, a1, af⟩ := hA.duo; obtain ⟨b0, b1, bf⟩ := hBx.duo; obtain ⟨r0, r1, rf⟩ := hR.duo))
      have hF := (hR.set 0 (.int .i64 (tr false))).set 1 (.int .i64 (tr false))
      have k0 := hF.cell 0
      have k1 := hF.cell 1
      exact bodyPost_ret (v := .agg #[.int .i64 (tr false), .int .i64 (tr false)]) (by simp [results, Tryz.results174, go_sem, k0, k1]; done) rfl ⟨rfl, (hB.setCell (p := ⟨w.heap.size + 2, 0, none⟩) (by show w.heap.size ≤ w.heap.size + 2; omega) _).setCell (p := ⟨w.heap.size + 2, 1, none⟩) (by show w.heap.size ≤ w.heap.size + 2; omega) _⟩
    · skip
      by_cases hz6 : bh < al
      · skip
        have c1 : decide (ah < bl) = false := decide_eq_false (by omega)
        have c2 : decide (bh < al) = true := decide_eq_true (by omega)
        have HV : opR 6 al ah bl bh = (tr false, tr false) := opR6 al ah bl bh _ _ (Bool.eq_false_iff.2 fun h => by first | (simp at h; done) | (simp at h; omega)) (Bool.eq_false_iff.2 fun h => by first | (simp at h; done) | (simp at h; omega))
        rw [HV]
        clear HV i1 i2 i3 j1 j2 j3
        try clear hz4
        try clear hz6
        try clear hz8
        try clear hz10
        go_enter Tryz.func174, Tryz.ntmps174
        go_upto_region 1 with fail
        rw [← hw3]
        clear hw3
        go_wp2_with ((go_at_call 171; refine (CK.out _ _).mono ?_; rintro e w' ⟨rfl, hb⟩; clear a0 a1 af b0 b1 bf r0 r1 rf; replace hA := hA.below hb hA.lt; replace hBx := hBx.below hb hBx.lt; replace hR := hR.below hb hR.lt; replace hB := hB.trans (hb.mono hB.size); obtain ⟨a0, a1, af⟩ := hA.duo; obtain ⟨b0, b1, bf⟩ := hBx.duo; obtain ⟨r0, r1, rf⟩ := hR.duo))
        have hF := (hR.set 0 (.int .i64 (tr false))).set 1 (.int .i64 (tr false))
        have k0 := hF.cell 0
        have k1 := hF.cell 1
        exact bodyPost_ret (v := .agg #[.int .i64 (tr false), .int .i64 (tr false)]) (by simp [results, Tryz.results174, go_sem, k0, k1]; done) rfl ⟨rfl, (hB.setCell (p := ⟨w.heap.size + 2, 0, none⟩) (by show w.heap.size ≤ w.heap.size + 2; omega) _).setCell (p := ⟨w.heap.size + 2, 1, none⟩) (by show w.heap.size ≤ w.heap.size + 2; omega) _⟩
      · skip
        by_cases hz8 : al = ah
        · skip
          by_cases hz10 : bl = bh
          · skip
            have c1 : decide (ah < bl) = false := decide_eq_false (by omega)
            have c2 : decide (bh < al) = false := decide_eq_false (by omega)
            have c3 : (al == ah) = true := beq_iff_eq.2 (by omega)
            have c4 : (bl == bh) = true := beq_iff_eq.2 (by omega)
            have HV : opR 6 al ah bl bh = (tr true, tr true) := opR6 al ah bl bh _ _ (by first | (simp; done) | (simp; omega)) (by first | (simp; done) | (simp; omega))
            rw [HV]
            clear HV i1 i2 i3 j1 j2 j3
            try clear hz4
            try clear hz6
            try clear hz8
            try clear hz10
            go_enter Tryz.func174, Tryz.ntmps174
            go_upto_region 1 with fail
            rw [← hw3]
            clear hw3
            go_wp2_with ((go_at_call 171; refine (CK.out _ _).mono ?_; rintro e w' ⟨rfl, hb⟩; clear a0 a1 af b0 b1 bf r0 r1 rf; replace hA := hA.below hb hA.lt; replace hBx := hBx.below hb hBx.lt; replace hR := hR.below hb hR.lt; replace hB := hB.trans (hb.mono hB.size); obtain ⟨a0, a1, af⟩ := hA.duo; obtain ⟨b0, b1, bf⟩ := hBx.duo; obtain ⟨r0, r1, rf⟩ := hR.duo))
            have hF := (hR.set 0 (.int .i64 (tr true))).set 1 (.int .i64 (tr true))
            have k0 := hF.cell 0
            have k1 := hF.cell 1
            exact bodyPost_ret (v := .agg #[.int .i64 (tr true), .int .i64 (tr true)]) (by simp [results, Tryz.results174, go_sem, k0, k1]; done) rfl ⟨rfl, (hB.setCell (p := ⟨w.heap.size + 2, 0, none⟩) (by show w.heap.size ≤ w.heap.size + 2; omega) _).setCell (p := ⟨w.heap.size + 2, 1, none⟩) (by show w.heap.size ≤ w.heap.size + 2; omega) _⟩
          · skip
            have c1 : decide (ah < bl) = false := decide_eq_false (by omega)
            have c2 : decide (bh < al) = false := decide_eq_false (by omega)
            have c3 : (al == ah) = true := beq_iff_eq.2 (by omega)
            have c4 : (bl == bh) = false := beq_eq_false_iff_ne.2 (by omega)
            have HV : opR 6 al ah bl bh = (tr false, tr true) := opR6 al ah bl bh _ _ (Bool.eq_false_iff.2 fun h => by first | (simp at h; done) | (simp at h; omega)) (by first | (simp; done) | (simp; omega))
            rw [HV]
            clear HV i1 i2 i3 j1 j2 j3
            try clear hz4
            try clear hz6
            try clear hz8
            try clear hz10
            go_enter Tryz.func174, Tryz.ntmps174
            go_upto_region 1 with fail
            rw [← hw3]
            clear hw3
            go_wp2_with ((go_at_call 171; refine (CK.out _ _).mono ?_; rintro e w' ⟨rfl, hb⟩; clear a0 a1 af b0 b1 bf r0 r1 rf; replace hA := hA.below hb hA.lt; replace hBx := hBx.below hb hBx.lt; replace hR := hR.below hb hR.lt; replace hB := hB.trans (hb.mono hB.size); obtain ⟨a0, a1, af⟩ := hA.duo; obtain ⟨b0, b1, bf⟩ := hBx.duo; obtain ⟨r0, r1, rf⟩ := hR.duo))
            have hF := (hR.set 0 (.int .i64 (0))).set 1 (.int .i64 (1))
            have k0 := hF.cell 0
            have k1 := hF.cell 1
            exact bodyPost_ret (v := .agg #[.int .i64 (0), .int .i64 (1)]) (by simp [results, Tryz.results174, go_sem, k0, k1]; done) rfl ⟨rfl, (hB.setCell (p := ⟨w.heap.size + 2, 0, none⟩) (by show w.heap.size ≤ w.heap.size + 2; omega) _).setCell (p := ⟨w.heap.size + 2, 1, none⟩) (by show w.heap.size ≤ w.heap.size + 2; omega) _⟩
        · skip
          have c1 : decide (ah < bl) = false := decide_eq_false (by omega)
          have c2 : decide (bh < al) = false := decide_eq_false (by omega)
          have c3 : (al == ah) = false := beq_eq_false_iff_ne.2 (by omega)
          have HV : opR 6 al ah bl bh = (tr false, tr true) := opR6 al ah bl bh _ _ (Bool.eq_false_iff.2 fun h => by first | (simp at h; done) | (simp at h; omega)) (by first | (simp; done) | (simp; omega))
          rw [HV]
          clear HV i1 i2 i3 j1 j2 j3
          try clear hz4
          try clear hz6
          try clear hz8
          try clear hz10
          go_enter Tryz.func174, Tryz.ntmps174
          go_upto_region 1 with fail
          rw [← hw3]
          clear hw3
          go_wp2_with ((go_at_call 171; refine (CK.out _ _).mono ?_; rintro e w' ⟨rfl, hb⟩; clear a0 a1 af b0 b1 bf r0 r1 rf; replace hA := hA.below hb hA.lt; replace hBx := hBx.below hb hBx.lt; replace hR := hR.below hb hR.lt; replace hB := hB.trans (hb.mono hB.size); obtain ⟨a0, a1, af⟩ := hA.duo; obtain ⟨b0, b1, bf⟩ := hBx.duo; obtain ⟨r0, r1, rf⟩ := hR.duo))
          have hF := (hR.set 0 (.int .i64 (0))).set 1 (.int .i64 (1))
          have k0 := hF.cell 0
          have k1 := hF.cell 1
          exact bodyPost_ret (v := .agg #[.int .i64 (0), .int .i64 (1)]) (by simp [results, Tryz.results174, go_sem, k0, k1]; done) rfl ⟨rfl, (hB.setCell (p := ⟨w.heap.size + 2, 0, none⟩) (by show w.heap.size ≤ w.heap.size + 2; omega) _).setCell (p := ⟨w.heap.size + 2, 1, none⟩) (by show w.heap.size ≤ w.heap.size + 2; omega) _⟩
  · skip
    by_cases hz4 : ah < bl
    · skip
      have c1 : decide (ah < bl) = true := decide_eq_true (by omega)
      have HV : opR 7 al ah bl bh = (tr true, tr true) := opR7 al ah bl bh _ _ (by first | (simp; done) | (simp; omega)) (by first | (simp; done) | (simp; omega))
      rw [HV]
      clear HV i1 i2 i3 j1 j2 j3
      try clear hz4
      try clear hz6
      try clear hz8
      try clear hz10
      go_enter Tryz.func174, Tryz.ntmps174
      go_upto_region 1 with fail
      rw [← hw3]
      clear hw3
      go_wp2_with ((go_at_call 171; refine (CK.out _ _).mono ?_; rintro e w' ⟨rfl, hb⟩; clear a0 a1 af b0 b1 bf r0 r1 rf; replace hA := hA.below hb hA.lt; replace hBx := hBx.below hb hBx.lt; replace hR := hR.below hb hR.lt; replace hB := hB.trans (hb.mono hB.size); obtain ⟨a0, a1, af⟩ := hA.duo; obtain ⟨b0, b1, bf⟩ := hBx.duo; obtain ⟨r0, r1, rf⟩ := hR.duo))
      have hF := (hR.set 0 (.int .i64 (tr true))).set 1 (.int .i64 (tr true))
      have k0 := hF.cell 0
      have k1 := hF.cell 1
      exact bodyPost_ret (v := .agg #[.int .i64 (tr true), .int .i64 (tr true)]) (by simp [results, Tryz.results174, go_sem, k0, k1]; done) rfl ⟨rfl, (hB.setCell (p := ⟨w.heap.size + 2, 0, none⟩) (by show w.heap.size ≤ w.heap.size + 2; omega) _).setCell (p := ⟨w.heap.size + 2, 1, none⟩) (by show w.heap.size ≤ w.heap.size + 2; omega) _⟩
    · skip
      by_cases hz6 : bh ≤ al
      · skip
        have c1 : decide (ah < bl) = false := decide_eq_false (by omega)
        have g1 : decide (bh ≤ al) = true := decide_eq_true (by omega)
        have HV : opR 7 al ah bl bh = (tr false, tr false) := opR7 al ah bl bh _ _ (Bool.eq_false_iff.2 fun h => by first | (simp at h; done) | (simp at h; omega)) (Bool.eq_false_iff.2 fun h => by first | (simp at h; done) | (simp at h; omega))
        rw [HV]
        clear HV i1 i2 i3 j1 j2 j3
        try clear hz4
        try clear hz6
        try clear hz8
        try clear hz10
        go_enter Tryz.func174, Tryz.ntmps174
        go_upto_region 1 with fail
        rw [← hw3]
        clear hw3
        go_wp2_with ((go_at_call 171; refine (CK.out _ _).mono ?_; rintro e w' ⟨rfl, hb⟩; clear a0 a1 af b0 b1 bf r0 r1 rf; replace hA := hA.below hb hA.lt; replace hBx := hBx.below hb hBx.lt; replace hR := hR.below hb hR.lt; replace hB := hB.trans (hb.mono hB.size); obtain ⟨a0, a1, af⟩ := hA.duo; obtain ⟨b0, b1, bf⟩ := hBx.duo; obtain ⟨r0, r1, rf⟩ := hR.duo))
        have hF := (hR.set 0 (.int .i64 (tr false))).set 1 (.int .i64 (tr false))
        have k0 := hF.cell 0
        have k1 := hF.cell 1
        exact bodyPost_ret (v := .agg #[.int .i64 (tr false), .int .i64 (tr false)]) (by simp [results, Tryz.results174, go_sem, k0, k1]; done) rfl ⟨rfl, (hB.setCell (p := ⟨w.heap.size + 2, 0, none⟩) (by show w.heap.size ≤ w.heap.size + 2; omega) _).setCell (p := ⟨w.heap.size + 2, 1, none⟩) (by show w.heap.size ≤ w.heap.size + 2; omega) _⟩
      · skip
        have c1 : decide (ah < bl) = false := decide_eq_false (by omega)
        have g1 : decide (bh ≤ al) = false := decide_eq_false (by omega)
        have HV : opR 7 al ah bl bh = (tr false, tr true) := opR7 al ah bl bh _ _ (Bool.eq_false_iff.2 fun h => by first | (simp at h; done) | (simp at h; omega)) (by first | (simp; done) | (simp; omega))
        rw [HV]
        clear HV i1 i2 i3 j1 j2 j3
        try clear hz4
        try clear hz6
        try clear hz8
        try clear hz10
        go_enter Tryz.func174, Tryz.ntmps174
        go_upto_region 1 with fail
        rw [← hw3]
        clear hw3
        go_wp2_with ((go_at_call 171; refine (CK.out _ _).mono ?_; rintro e w' ⟨rfl, hb⟩; clear a0 a1 af b0 b1 bf r0 r1 rf; replace hA := hA.below hb hA.lt; replace hBx := hBx.below hb hBx.lt; replace hR := hR.below hb hR.lt; replace hB := hB.trans (hb.mono hB.size); obtain ⟨a0, a1, af⟩ := hA.duo; obtain ⟨b0, b1, bf⟩ := hBx.duo; obtain ⟨r0, r1, rf⟩ := hR.duo))
        have hF := (hR.set 0 (.int .i64 (0))).set 1 (.int .i64 (1))
        have k0 := hF.cell 0
        have k1 := hF.cell 1
        exact bodyPost_ret (v := .agg #[.int .i64 (0), .int .i64 (1)]) (by simp [results, Tryz.results174, go_sem, k0, k1]; done) rfl ⟨rfl, (hB.setCell (p := ⟨w.heap.size + 2, 0, none⟩) (by show w.heap.size ≤ w.heap.size + 2; omega) _).setCell (p := ⟨w.heap.size + 2, 1, none⟩) (by show w.heap.size ≤ w.heap.size + 2; omega) _⟩

set_option maxRecDepth 100000 in
set_option maxHeartbeats 6400000 in
theorem logic5_any (o al ah bl bh : Int) (w : World) (h1 : IvOk (al, ah)) (h2 : IvOk (bl, bh)) (ho : o = 8 ∨ o = 9) :
    Calls Tryz.prog 175 #[.int .i64 o, .agg #[.int .i64 al, .int .i64 ah], .agg #[.int .i64 bl, .int .i64 bh]] w fun e w' => e = .returned (.agg #[.int .i64 (opR o al ah bl bh).1, .int .i64 (opR o al ah bl bh).2]) ∧ Below w.heap.size w w' := by
  obtain ⟨w3, hw3⟩ : ∃ w3, w3 = ((w.alloc (.cells #[.int .i64 al, .int .i64 ah] 70)).alloc (.cells #[.int .i64 bl, .int .i64 bh] 70)).alloc (.cells #[.int .i64 0, .int .i64 0] 70) := ⟨_, rfl⟩
  have hA : Box w3 w.heap.size 70 #[.int .i64 al, .int .i64 ah] := by rw [hw3]; exact ((Box.new w 70 #[.int .i64 al, .int .i64 ah]).alloc _).alloc _
  have hBx : Box w3 (w.heap.size + 1) 70 #[.int .i64 bl, .int .i64 bh] := by
    have := (Box.new (w.alloc (.cells #[.int .i64 al, .int .i64 ah] 70)) 70 #[.int .i64 bl, .int .i64 bh]).alloc (.cells #[.int .i64 0, .int .i64 0] 70)
    rw [World.size_alloc] at this
    rw [hw3]; exact this
  have hR : Box w3 (w.heap.size + 2) 70 #[.int .i64 0, .int .i64 0] := by
    have := Box.new ((w.alloc (.cells #[.int .i64 al, .int .i64 ah] 70)).alloc (.cells #[.int .i64 bl, .int .i64 bh] 70)) 70 #[.int .i64 0, .int .i64 0]
    rw [World.size_alloc, World.size_alloc] at this
    rw [hw3]; exact this
  have hB : Below w.heap.size w w3 := by rw [hw3]; exact (((Below.refl _ w).alloc (Nat.le_refl _) _).alloc (by simp) _).alloc (by simp; omega) _
  have CK : Hid (∀ p W, _) := Lib.hid fun p W => known_any p W
  obtain ⟨a0, a1, af⟩ := hA.duo
  obtain ⟨b0, b1, bf⟩ := hBx.duo
  obtain ⟨r0, r1, rf⟩ := hR.duo
  obtain ⟨i1, i2, i3⟩ := h1
  obtain ⟨j1, j2, j3⟩ := h2
  dsimp only at i1 i2 i3 j1 j2 j3
  have CY : Hid (∀ a b W, _) := Lib.hid fun a b W => yes_any a b W
  have CN : Hid (∀ a b W, _) := Lib.hid fun a b W => no_any a b W
  rcases ho with rfl | rfl
  · skip
    by_cases hz4 : ah = 0
    · skip
      have na : (ah == 0) = true := beq_iff_eq.2 (by omega)
      have HV : opR 8 al ah bl bh = (tr false, tr false) := opR8 al ah bl bh _ _ (Bool.eq_false_iff.2 fun h => by first | (simp at h; done) | (simp at h; omega)) (Bool.eq_false_iff.2 fun h => by first | (simp at h; done) | (simp at h; omega))
      rw [HV]
      clear HV i1 i2 i3 j1 j2 j3
      try clear hz4
      try clear hz6
      try clear hz8
      try clear hz10
      go_enter Tryz.func175, Tryz.ntmps175
      go_upto_region 1 with fail
      rw [← hw3]
      clear hw3
      go_wp2_with (first | (go_at_call 171; refine (CK.out _ _).mono ?_; rintro e w' ⟨rfl, hb⟩; clear a0 a1 af b0 b1 bf r0 r1 rf; replace hA := hA.below hb hA.lt; replace hBx := hBx.below hb hBx.lt; replace hR := hR.below hb hR.lt; replace hB := hB.trans (hb.mono hB.size); obtain ⟨a0, a1, af⟩ := hA.duo; obtain ⟨b0, b1, bf⟩ := hBx.duo; obtain ⟨r0, r1, rf⟩ := hR.duo) | (go_at_call 53; refine (CY.out _ _ _).mono ?_; rintro e w' ⟨rfl, hb⟩; clear a0 a1 af b0 b1 bf r0 r1 rf; replace hA := hA.below hb hA.lt; replace hBx := hBx.below hb hBx.lt; replace hR := hR.below hb hR.lt; replace hB := hB.trans (hb.mono hB.size); obtain ⟨a0, a1, af⟩ := hA.duo; obtain ⟨b0, b1, bf⟩ := hBx.duo; obtain ⟨r0, r1, rf⟩ := hR.duo) | (go_at_call 54; refine (CN.out _ _ _).mono ?_; rintro e w' ⟨rfl, hb⟩; clear a0 a1 af b0 b1 bf r0 r1 rf; replace hA := hA.below hb hA.lt; replace hBx := hBx.below hb hBx.lt; replace hR := hR.below hb hR.lt; replace hB := hB.trans (hb.mono hB.size); obtain ⟨a0, a1, af⟩ := hA.duo; obtain ⟨b0, b1, bf⟩ := hBx.duo; obtain ⟨r0, r1, rf⟩ := hR.duo))
      have hF := (hR.set 0 (.int .i64 (tr false))).set 1 (.int .i64 (tr false))
      have k0 := hF.cell 0
      have k1 := hF.cell 1
      exact bodyPost_ret (v := .agg #[.int .i64 (tr false), .int .i64 (tr false)]) (by simp [results, Tryz.results175, go_sem, k0, k1]; done) rfl ⟨rfl, (hB.setCell (p := ⟨w.heap.size + 2, 0, none⟩) (by show w.heap.size ≤ w.heap.size + 2; omega) _).setCell (p := ⟨w.heap.size + 2, 1, none⟩) (by show w.heap.size ≤ w.heap.size + 2; omega) _⟩
    · skip
      by_cases hz6 : bh = 0
      · skip
        have na : (ah == 0) = false := beq_eq_false_iff_ne.2 (by omega)
        have nb : (bh == 0) = true := beq_iff_eq.2 (by omega)
        have HV : opR 8 al ah bl bh = (tr false, tr false) := opR8 al ah bl bh _ _ (Bool.eq_false_iff.2 fun h => by first | (simp at h; done) | (simp at h; omega)) (Bool.eq_false_iff.2 fun h => by first | (simp at h; done) | (simp at h; omega))
        rw [HV]
        clear HV i1 i2 i3 j1 j2 j3
        try clear hz4
        try clear hz6
        try clear hz8
        try clear hz10
        go_enter Tryz.func175, Tryz.ntmps175
        go_upto_region 1 with fail
        rw [← hw3]
        clear hw3
        go_wp2_with (first | (go_at_call 171; refine (CK.out _ _).mono ?_; rintro e w' ⟨rfl, hb⟩; clear a0 a1 af b0 b1 bf r0 r1 rf; replace hA := hA.below hb hA.lt; replace hBx := hBx.below hb hBx.lt; replace hR := hR.below hb hR.lt; replace hB := hB.trans (hb.mono hB.size); obtain ⟨a0, a1, af⟩ := hA.duo; obtain ⟨b0, b1, bf⟩ := hBx.duo; obtain ⟨r0, r1, rf⟩ := hR.duo) | (go_at_call 53; refine (CY.out _ _ _).mono ?_; rintro e w' ⟨rfl, hb⟩; clear a0 a1 af b0 b1 bf r0 r1 rf; replace hA := hA.below hb hA.lt; replace hBx := hBx.below hb hBx.lt; replace hR := hR.below hb hR.lt; replace hB := hB.trans (hb.mono hB.size); obtain ⟨a0, a1, af⟩ := hA.duo; obtain ⟨b0, b1, bf⟩ := hBx.duo; obtain ⟨r0, r1, rf⟩ := hR.duo) | (go_at_call 54; refine (CN.out _ _ _).mono ?_; rintro e w' ⟨rfl, hb⟩; clear a0 a1 af b0 b1 bf r0 r1 rf; replace hA := hA.below hb hA.lt; replace hBx := hBx.below hb hBx.lt; replace hR := hR.below hb hR.lt; replace hB := hB.trans (hb.mono hB.size); obtain ⟨a0, a1, af⟩ := hA.duo; obtain ⟨b0, b1, bf⟩ := hBx.duo; obtain ⟨r0, r1, rf⟩ := hR.duo))
        have hF := (hR.set 0 (.int .i64 (tr false))).set 1 (.int .i64 (tr false))
        have k0 := hF.cell 0
        have k1 := hF.cell 1
        exact bodyPost_ret (v := .agg #[.int .i64 (tr false), .int .i64 (tr false)]) (by simp [results, Tryz.results175, go_sem, k0, k1]; done) rfl ⟨rfl, (hB.setCell (p := ⟨w.heap.size + 2, 0, none⟩) (by show w.heap.size ≤ w.heap.size + 2; omega) _).setCell (p := ⟨w.heap.size + 2, 1, none⟩) (by show w.heap.size ≤ w.heap.size + 2; omega) _⟩
      · skip
        by_cases hz8 : 0 < al
        · skip
          by_cases hz10 : 0 < bl
          · skip
            have na : (ah == 0) = false := beq_eq_false_iff_ne.2 (by omega)
            have nb : (bh == 0) = false := beq_eq_false_iff_ne.2 (by omega)
            have ya : decide (0 < al) = true := decide_eq_true (by omega)
            have yb : decide (0 < bl) = true := decide_eq_true (by omega)
            have HV : opR 8 al ah bl bh = (tr true, tr true) := opR8 al ah bl bh _ _ (by first | (simp; done) | (simp; omega)) (by first | (simp; done) | (simp; omega))
            rw [HV]
            clear HV i1 i2 i3 j1 j2 j3
            try clear hz4
            try clear hz6
            try clear hz8
            try clear hz10
            go_enter Tryz.func175, Tryz.ntmps175
            go_upto_region 1 with fail
            rw [← hw3]
            clear hw3
            go_wp2_with (first | (go_at_call 171; refine (CK.out _ _).mono ?_; rintro e w' ⟨rfl, hb⟩; clear a0 a1 af b0 b1 bf r0 r1 rf; replace hA := hA.below hb hA.lt; replace hBx := hBx.below hb hBx.lt; replace hR := hR.below hb hR.lt; replace hB := hB.trans (hb.mono hB.size); obtain ⟨a0, a1, af⟩ := hA.duo; obtain ⟨b0, b1, bf⟩ := hBx.duo; obtain ⟨r0, r1, rf⟩ := hR.duo) | (go_at_call 53; refine (CY.out _ _ _).mono ?_; rintro e w' ⟨rfl, hb⟩; clear a0 a1 af b0 b1 bf r0 r1 rf; replace hA := hA.below hb hA.lt; replace hBx := hBx.below hb hBx.lt; replace hR := hR.below hb hR.lt; replace hB := hB.trans (hb.mono hB.size); obtain ⟨a0, a1, af⟩ := hA.duo; obtain ⟨b0, b1, bf⟩ := hBx.duo; obtain ⟨r0, r1, rf⟩ := hR.duo) | (go_at_call 54; refine (CN.out _ _ _).mono ?_; rintro e w' ⟨rfl, hb⟩; clear a0 a1 af b0 b1 bf r0 r1 rf; replace hA := hA.below hb hA.lt; replace hBx := hBx.below hb hBx.lt; replace hR := hR.below hb hR.lt; replace hB := hB.trans (hb.mono hB.size); obtain ⟨a0, a1, af⟩ := hA.duo; obtain ⟨b0, b1, bf⟩ := hBx.duo; obtain ⟨r0, r1, rf⟩ := hR.duo))
            have hF := (hR.set 0 (.int .i64 (tr true))).set 1 (.int .i64 (tr true))
            have k0 := hF.cell 0
            have k1 := hF.cell 1
            exact bodyPost_ret (v := .agg #[.int .i64 (tr true), .int .i64 (tr true)]) (by simp [results, Tryz.results175, go_sem, k0, k1]; done) rfl ⟨rfl, (hB.setCell (p := ⟨w.heap.size + 2, 0, none⟩) (by show w.heap.size ≤ w.heap.size + 2; omega) _).setCell (p := ⟨w.heap.size + 2, 1, none⟩) (by show w.heap.size ≤ w.heap.size + 2; omega) _⟩
          · skip
            have na : (ah == 0) = false := beq_eq_false_iff_ne.2 (by omega)
            have nb : (bh == 0) = false := beq_eq_false_iff_ne.2 (by omega)
            have ya : decide (0 < al) = true := decide_eq_true (by omega)
            have yb : decide (0 < bl) = false := decide_eq_false (by omega)
            have HV : opR 8 al ah bl bh = (tr false, tr true) := opR8 al ah bl bh _ _ (Bool.eq_false_iff.2 fun h => by first | (simp at h; done) | (simp at h; omega)) (by first | (simp; done) | (simp; omega))
            rw [HV]
            clear HV i1 i2 i3 j1 j2 j3
            try clear hz4
            try clear hz6
            try clear hz8
            try clear hz10
            go_enter Tryz.func175, Tryz.ntmps175
            go_upto_region 1 with fail
            rw [← hw3]
            clear hw3
            go_wp2_with (first | (go_at_call 171; refine (CK.out _ _).mono ?_; rintro e w' ⟨rfl, hb⟩; clear a0 a1 af b0 b1 bf r0 r1 rf; replace hA := hA.below hb hA.lt; replace hBx := hBx.below hb hBx.lt; replace hR := hR.below hb hR.lt; replace hB := hB.trans (hb.mono hB.size); obtain ⟨a0, a1, af⟩ := hA.duo; obtain ⟨b0, b1, bf⟩ := hBx.duo; obtain ⟨r0, r1, rf⟩ := hR.duo) | (go_at_call 53; refine (CY.out _ _ _).mono ?_; rintro e w' ⟨rfl, hb⟩; clear a0 a1 af b0 b1 bf r0 r1 rf; replace hA := hA.below hb hA.lt; replace hBx := hBx.below hb hBx.lt; replace hR := hR.below hb hR.lt; replace hB := hB.trans (hb.mono hB.size); obtain ⟨a0, a1, af⟩ := hA.duo; obtain ⟨b0, b1, bf⟩ := hBx.duo; obtain ⟨r0, r1, rf⟩ := hR.duo) | (go_at_call 54; refine (CN.out _ _ _).mono ?_; rintro e w' ⟨rfl, hb⟩; clear a0 a1 af b0 b1 bf r0 r1 rf; replace hA := hA.below hb hA.lt; replace hBx := hBx.below hb hBx.lt; replace hR := hR.below hb hR.lt; replace hB := hB.trans (hb.mono hB.size); obtain ⟨a0, a1, af⟩ := hA.duo; obtain ⟨b0, b1, bf⟩ := hBx.duo; obtain ⟨r0, r1, rf⟩ := hR.duo))
            have hF := (hR.set 0 (.int .i64 (0))).set 1 (.int .i64 (1))
            have k0 := hF.cell 0
            have k1 := hF.cell 1
            exact bodyPost_ret (v := .agg #[.int .i64 (0), .int .i64 (1)]) (by simp [results, Tryz.results175, go_sem, k0, k1]; done) rfl ⟨rfl, (hB.setCell (p := ⟨w.heap.size + 2, 0, none⟩) (by show w.heap.size ≤ w.heap.size + 2; omega) _).setCell (p := ⟨w.heap.size + 2, 1, none⟩) (by show w.heap.size ≤ w.heap.size + 2; omega) _⟩
        · skip
          have na : (ah == 0) = false := beq_eq_false_iff_ne.2 (by omega)
          have nb : (bh == 0) = false := beq_eq_false_iff_ne.2 (by omega)
          have ya : decide (0 < al) = false := decide_eq_false (by omega)
          have HV : opR 8 al ah bl bh = (tr false, tr true) := opR8 al ah bl bh _ _ (Bool.eq_false_iff.2 fun h => by first | (simp at h; done) | (simp at h; omega)) (by first | (simp; done) | (simp; omega))
          rw [HV]
          clear HV i1 i2 i3 j1 j2 j3
          try clear hz4
          try clear hz6
          try clear hz8
          try clear hz10
          go_enter Tryz.func175, Tryz.ntmps175
          go_upto_region 1 with fail
          rw [← hw3]
          clear hw3
          go_wp2_with (first | (go_at_call 171; refine (CK.out _ _).mono ?_; rintro e w' ⟨rfl, hb⟩; clear a0 a1 af b0 b1 bf r0 r1 rf; replace hA := hA.below hb hA.lt; replace hBx := hBx.below hb hBx.lt; replace hR := hR.below hb hR.lt; replace hB := hB.trans (hb.mono hB.size); obtain ⟨a0, a1, af⟩ := hA.duo; obtain ⟨b0, b1, bf⟩ := hBx.duo; obtain ⟨r0, r1, rf⟩ := hR.duo) | (go_at_call 53; refine (CY.out _ _ _).mono ?_; rintro e w' ⟨rfl, hb⟩; clear a0 a1 af b0 b1 bf r0 r1 rf; replace hA := hA.below hb hA.lt; replace hBx := hBx.below hb hBx.lt; replace hR := hR.below hb hR.lt; replace hB := hB.trans (hb.mono hB.size); obtain ⟨a0, a1, af⟩ := hA.duo; obtain ⟨b0, b1, bf⟩ := hBx.duo; obtain ⟨r0, r1, rf⟩ := hR.duo) | (go_at_call 54; refine (CN.out _ _ _).mono ?_; rintro e w' ⟨rfl, hb⟩; clear a0 a1 af b0 b1 bf r0 r1 rf; replace hA := hA.below hb hA.lt; replace hBx := hBx.below hb hBx.lt; replace hR := hR.below hb hR.lt; replace hB := hB.trans (hb.mono hB.size); obtain ⟨a0, a1, af⟩ := hA.duo; obtain ⟨b0, b1, bf⟩ := hBx.duo; obtain ⟨r0, r1, rf⟩ := hR.duo))
          have hF := (hR.set 0 (.int .i64 (0))).set 1 (.int .i64 (1))
          have k0 := hF.cell 0
          have k1 := hF.cell 1
          exact bodyPost_ret (v := .agg #[.int .i64 (0), .int .i64 (1)]) (by simp [results, Tryz.results175, go_sem, k0, k1]; done) rfl ⟨rfl, (hB.setCell (p := ⟨w.heap.size + 2, 0, none⟩) (by show w.heap.size ≤ w.heap.size + 2; omega) _).setCell (p := ⟨w.heap.size + 2, 1, none⟩) (by show w.heap.size ≤ w.heap.size + 2; omega) _⟩
  · skip
    by_cases hz4 : 0 < al
    · skip
      have ya : decide (0 < al) = true := decide_eq_true (by omega)
      have HV : opR 9 al ah bl bh = (tr true, tr true) := opR9 al ah bl bh _ _ (by first | (simp; done) | (simp; omega)) (by first | (simp; done) | (simp; omega))
      rw [HV]
      clear HV i1 i2 i3 j1 j2 j3
      try clear hz4
      try clear hz6
      try clear hz8
      try clear hz10
      go_enter Tryz.func175, Tryz.ntmps175
      go_upto_region 1 with fail
      rw [← hw3]
      clear hw3
      go_wp2_with (first | (go_at_call 171; refine (CK.out _ _).mono ?_; rintro e w' ⟨rfl, hb⟩; clear a0 a1 af b0 b1 bf r0 r1 rf; replace hA := hA.below hb hA.lt; replace hBx := hBx.below hb hBx.lt; replace hR := hR.below hb hR.lt; replace hB := hB.trans (hb.mono hB.size); obtain ⟨a0, a1, af⟩ := hA.duo; obtain ⟨b0, b1, bf⟩ := hBx.duo; obtain ⟨r0, r1, rf⟩ := hR.duo) | (go_at_call 53; refine (CY.out _ _ _).mono ?_; rintro e w' ⟨rfl, hb⟩; clear a0 a1 af b0 b1 bf r0 r1 rf; replace hA := hA.below hb hA.lt; replace hBx := hBx.below hb hBx.lt; replace hR := hR.below hb hR.lt; replace hB := hB.trans (hb.mono hB.size); obtain ⟨a0, a1, af⟩ := hA.duo; obtain ⟨b0, b1, bf⟩ := hBx.duo; obtain ⟨r0, r1, rf⟩ := hR.duo) | (go_at_call 54; refine (CN.out _ _ _).mono ?_; rintro e w' ⟨rfl, hb⟩; clear a0 a1 af b0 b1 bf r0 r1 rf; replace hA := hA.below hb hA.lt; replace hBx := hBx.below hb hBx.lt; replace hR := hR.below hb hR.lt; replace hB := hB.trans (hb.mono hB.size); obtain ⟨a0, a1, af⟩ := hA.duo; obtain ⟨b0, b1, bf⟩ := hBx.duo; obtain ⟨r0, r1, rf⟩ := hR.duo))
      have hF := (hR.set 0 (.int .i64 (tr true))).set 1 (.int .i64 (tr true))
      have k0 := hF.cell 0
      have k1 := hF.cell 1
      exact bodyPost_ret (v := .agg #[.int .i64 (tr true), .int .i64 (tr true)]) (by simp [results, Tryz.results175, go_sem, k0, k1]; done) rfl ⟨rfl, (hB.setCell (p := ⟨w.heap.size + 2, 0, none⟩) (by show w.heap.size ≤ w.heap.size + 2; omega) _).setCell (p := ⟨w.heap.size + 2, 1, none⟩) (by show w.heap.size ≤ w.heap.size + 2; omega) _⟩
    · skip
      by_cases hz6 : 0 < bl
      · skip
        have ya : decide (0 < al) = false := decide_eq_false (by omega)
        have yb : decide (0 < bl) = true := decide_eq_true (by omega)
        have HV : opR 9 al ah bl bh = (tr true, tr true) := opR9 al ah bl bh _ _ (by first | (simp; done) | (simp; omega)) (by first | (simp; done) | (simp; omega))
        rw [HV]
        clear HV i1 i2 i3 j1 j2 j3
        try clear hz4
        try clear hz6
        try clear hz8
        try clear hz10
        go_enter Tryz.func175, Tryz.ntmps175
        go_upto_region 1 with fail
        rw [← hw3]
        clear hw3
        go_wp2_with (first | (go_at_call 171; refine (CK.out _ _).mono ?_; rintro e w' ⟨rfl, hb⟩; clear a0 a1 af b0 b1 bf r0 r1 rf; replace hA := hA.below hb hA.lt; replace hBx := hBx.below hb hBx.lt; replace hR := hR.below hb hR.lt; replace hB := hB.trans (hb.mono hB.size); obtain ⟨a0, a1, af⟩ := hA.duo; obtain ⟨b0, b1, bf⟩ := hBx.duo; obtain ⟨r0, r1, rf⟩ := hR.duo) | (go_at_call 53; refine (CY.out _ _ _).mono ?_; rintro e w' ⟨rfl, hb⟩; clear a0 a1 af b0 b1 bf r0 r1 rf; replace hA := hA.below hb hA.lt; replace hBx := hBx.below hb hBx.lt; replace hR := hR.below hb hR.lt; replace hB := hB.trans (hb.mono hB.size); obtain ⟨a0, a1, af⟩ := hA.duo; obtain ⟨b0, b1, bf⟩ := hBx.duo; obtain ⟨r0, r1, rf⟩ := hR.duo) | (go_at_call 54; refine (CN.out _ _ _).mono ?_; rintro e w' ⟨rfl, hb⟩; clear a0 a1 af b0 b1 bf r0 r1 rf; replace hA := hA.below hb hA.lt; replace hBx := hBx.below hb hBx.lt; replace hR := hR.below hb hR.lt; replace hB := hB.trans (hb.mono hB.size); obtain ⟨a0, a1, af⟩ := hA.duo; obtain ⟨b0, b1, bf⟩ := hBx.duo; obtain ⟨r0, r1, rf⟩ := hR.duo))
        have hF := (hR.set 0 (.int .i64 (tr true))).set 1 (.int .i64 (tr true))
        have k0 := hF.cell 0
        have k1 := hF.cell 1
        exact bodyPost_ret (v := .agg #[.int .i64 (tr true), .int .i64 (tr true)]) (by simp [results, Tryz.results175, go_sem, k0, k1]; done) rfl ⟨rfl, (hB.setCell (p := ⟨w.heap.size + 2, 0, none⟩) (by show w.heap.size ≤ w.heap.size + 2; omega) _).setCell (p := ⟨w.heap.size + 2, 1, none⟩) (by show w.heap.size ≤ w.heap.size + 2; omega) _⟩
      · skip
        by_cases hz8 : ah = 0
        · skip
          by_cases hz10 : bh = 0
          · skip
            have ya : decide (0 < al) = false := decide_eq_false (by omega)
            have yb : decide (0 < bl) = false := decide_eq_false (by omega)
            have na : (ah == 0) = true := beq_iff_eq.2 (by omega)
            have nb : (bh == 0) = true := beq_iff_eq.2 (by omega)
            have HV : opR 9 al ah bl bh = (tr false, tr false) := opR9 al ah bl bh _ _ (Bool.eq_false_iff.2 fun h => by first | (simp at h; done) | (simp at h; omega)) (Bool.eq_false_iff.2 fun h => by first | (simp at h; done) | (simp at h; omega))
            rw [HV]
            clear HV i1 i2 i3 j1 j2 j3
            try clear hz4
            try clear hz6
            try clear hz8
            try clear hz10
            go_enter Tryz.func175, Tryz.ntmps175
            go_upto_region 1 with fail
            rw [← hw3]
            clear hw3
            go_wp2_with (first | (go_at_call 171; refine (CK.out _ _).mono ?_; rintro e w' ⟨rfl, hb⟩; clear a0 a1 af b0 b1 bf r0 r1 rf; replace hA := hA.below hb hA.lt; replace hBx := hBx.below hb hBx.lt; replace hR := hR.below hb hR.lt; replace hB := hB.trans (hb.mono hB.size); obtain ⟨a0, a1, af⟩ := hA.duo; obtain ⟨b0, b1, bf⟩ := hBx.duo; obtain ⟨r0, r1, rf⟩ := hR.duo) | (go_at_call 53; refine (CY.out _ _ _).mono ?_; rintro e w' ⟨rfl, hb⟩; clear a0 a1 af b0 b1 bf r0 r1 rf; replace hA := hA.below hb hA.lt; replace hBx := hBx.below hb hBx.lt; replace hR := hR.below hb hR.lt; replace hB := hB.trans (hb.mono hB.size); obtain ⟨a0, a1, af⟩ := hA.duo; obtain ⟨b0, b1, bf⟩ := hBx.duo; obtain ⟨r0, r1, rf⟩ := hR.duo) | (go_at_call 54; refine (CN.out _ _ _).mono ?_; rintro e w' ⟨rfl, hb⟩; clear a0 a1 af b0 b1 bf r0 r1 rf; replace hA := hA.below hb hA.lt; replace hBx := hBx.below hb hBx.lt; replace hR := hR.below hb hR.lt; replace hB := hB.trans (hb.mono hB.size); obtain ⟨a0, a1, af⟩ := hA.duo; obtain ⟨b0, b1, bf⟩ := hBx.duo; obtain ⟨r0, r1, rf⟩ := hR.duo))
            have hF := (hR.set 0 (.int .i64 (tr false))).set 1 (.int .i64 (tr false))
            have k0 := hF.cell 0
            have k1 := hF.cell 1
            exact bodyPost_ret (v := .agg #[.int .i64 (tr false), .int .i64 (tr false)]) (by simp [results, Tryz.results175, go_sem, k0, k1]; done) rfl ⟨rfl, (hB.setCell (p := ⟨w.heap.size + 2, 0, none⟩) (by show w.heap.size ≤ w.heap.size + 2; omega) _).setCell (p := ⟨w.heap.size + 2, 1, none⟩) (by show w.heap.size ≤ w.heap.size + 2; omega) _⟩
          · skip
            have ya : decide (0 < al) = false := decide_eq_false (by omega)
            have yb : decide (0 < bl) = false := decide_eq_false (by omega)
            have na : (ah == 0) = true := beq_iff_eq.2 (by omega)
            have nb : (bh == 0) = false := beq_eq_false_iff_ne.2 (by omega)
            have HV : opR 9 al ah bl bh = (tr false, tr true) := opR9 al ah bl bh _ _ (Bool.eq_false_iff.2 fun h => by first | (simp at h; done) | (simp at h; omega)) (by first | (simp; done) | (simp; omega))
            rw [HV]
            clear HV i1 i2 i3 j1 j2 j3
            try clear hz4
            try clear hz6
            try clear hz8
            try clear hz10
            go_enter Tryz.func175, Tryz.ntmps175
            go_upto_region 1 with fail
            rw [← hw3]
            clear hw3
            go_wp2_with (first | (go_at_call 171; refine (CK.out _ _).mono ?_; rintro e w' ⟨rfl, hb⟩; clear a0 a1 af b0 b1 bf r0 r1 rf; replace hA := hA.below hb hA.lt; replace hBx := hBx.below hb hBx.lt; replace hR := hR.below hb hR.lt; replace hB := hB.trans (hb.mono hB.size); obtain ⟨a0, a1, af⟩ := hA.duo; obtain ⟨b0, b1, bf⟩ := hBx.duo; obtain ⟨r0, r1, rf⟩ := hR.duo) | (go_at_call 53; refine (CY.out _ _ _).mono ?_; rintro e w' ⟨rfl, hb⟩; clear a0 a1 af b0 b1 bf r0 r1 rf; replace hA := hA.below hb hA.lt; replace hBx := hBx.below hb hBx.lt; replace hR := hR.below hb hR.lt; replace hB := hB.trans (hb.mono hB.size); obtain ⟨a0, a1, af⟩ := hA.duo; obtain ⟨b0, b1, bf⟩ := hBx.duo; obtain ⟨r0, r1, rf⟩ := hR.duo) | (go_at_call 54; refine (CN.out _ _ _).mono ?_; rintro e w' ⟨rfl, hb⟩; clear a0 a1 af b0 b1 bf r0 r1 rf; replace hA := hA.below hb hA.lt; replace hBx := hBx.below hb hBx.lt; replace hR := hR.below hb hR.lt; replace hB := hB.trans (hb.mono hB.size); obtain ⟨a0, a1, af⟩ := hA.duo; obtain ⟨b0, b1, bf⟩ := hBx.duo; obtain ⟨r0, r1, rf⟩ := hR.duo))
            have hF := (hR.set 0 (.int .i64 (0))).set 1 (.int .i64 (1))
            have k0 := hF.cell 0
            have k1 := hF.cell 1
            exact bodyPost_ret (v := .agg #[.int .i64 (0), .int .i64 (1)]) (by simp [results, Tryz.results175, go_sem, k0, k1]; done) rfl ⟨rfl, (hB.setCell (p := ⟨w.heap.size + 2, 0, none⟩) (by show w.heap.size ≤ w.heap.size + 2; omega) _).setCell (p := ⟨w.heap.size + 2, 1, none⟩) (by show w.heap.size ≤ w.heap.size + 2; omega) _⟩
        · skip
          have ya : decide (0 < al) = false := decide_eq_false (by omega)
          have yb : decide (0 < bl) = false := decide_eq_false (by omega)
          have na : (ah == 0) = false := beq_eq_false_iff_ne.2 (by omega)
          have HV : opR 9 al ah bl bh = (tr false, tr true) := opR9 al ah bl bh _ _ (Bool.eq_false_iff.2 fun h => by first | (simp at h; done) | (simp at h; omega)) (by first | (simp; done) | (simp; omega))
          rw [HV]
          clear HV i1 i2 i3 j1 j2 j3
          try clear hz4
          try clear hz6
          try clear hz8
          try clear hz10
          go_enter Tryz.func175, Tryz.ntmps175
          go_upto_region 1 with fail
          rw [← hw3]
          clear hw3
          go_wp2_with (first | (go_at_call 171; refine (CK.out _ _).mono ?_; rintro e w' ⟨rfl, hb⟩; clear a0 a1 af b0 b1 bf r0 r1 rf; replace hA := hA.below hb hA.lt; replace hBx := hBx.below hb hBx.lt; replace hR := hR.below hb hR.lt; replace hB := hB.trans (hb.mono hB.size); obtain ⟨a0, a1, af⟩ := hA.duo; obtain ⟨b0, b1, bf⟩ := hBx.duo; obtain ⟨r0, r1, rf⟩ := hR.duo) | (go_at_call 53; refine (CY.out _ _ _).mono ?_; rintro e w' ⟨rfl, hb⟩; clear a0 a1 af b0 b1 bf r0 r1 rf; replace hA := hA.below hb hA.lt; replace hBx := hBx.below hb hBx.lt; replace hR := hR.below hb hR.lt; replace hB := hB.trans (hb.mono hB.size); obtain ⟨a0, a1, af⟩ := hA.duo; obtain ⟨b0, b1, bf⟩ := hBx.duo; obtain ⟨r0, r1, rf⟩ := hR.duo) | (go_at_call 54; refine (CN.out _ _ _).mono ?_; rintro e w' ⟨rfl, hb⟩; clear a0 a1 af b0 b1 bf r0 r1 rf; replace hA := hA.below hb hA.lt; replace hBx := hBx.below hb hBx.lt; replace hR := hR.below hb hR.lt; replace hB := hB.trans (hb.mono hB.size); obtain ⟨a0, a1, af⟩ := hA.duo; obtain ⟨b0, b1, bf⟩ := hBx.duo; obtain ⟨r0, r1, rf⟩ := hR.duo))
          have hF := (hR.set 0 (.int .i64 (0))).set 1 (.int .i64 (1))
          have k0 := hF.cell 0
          have k1 := hF.cell 1
          exact bodyPost_ret (v := .agg #[.int .i64 (0), .int .i64 (1)]) (by simp [results, Tryz.results175, go_sem, k0, k1]; done) rfl ⟨rfl, (hB.setCell (p := ⟨w.heap.size + 2, 0, none⟩) (by show w.heap.size ≤ w.heap.size + 2; omega) _).setCell (p := ⟨w.heap.size + 2, 1, none⟩) (by show w.heap.size ≤ w.heap.size + 2; omega) _⟩

end Go.Proofs.YtdeilceakhgjlaaGreat
/-
  Intervals of expressions: the model's l5Apply and l5Range. (Written by gen_pgrg4.py.)
-/
namespace Go.Proofs.YtdeilceakhgjlaaGreat
open Go.RowKit Num

theorem ChAt.duo {lo : Nat} {w : World} {A : Option Addr} {n j : Nat} {ch : Nat → Int × Int} (h : ChAt lo w A n ch) (hj : j < n) : ∃ b off, A = some ⟨b, off, none⟩ ∧ b < w.heap.size ∧ w.cell? ⟨b, off + j * 2, none⟩ = some (.int .i64 (ch j).1) ∧ w.cell? ⟨b, off + j * 2 + 1, none⟩ = some (.int .i64 (ch j).2) := h.at_ hj
/-- The operands' boxes and the result's. -/
def KeepT (w : World) (a b : Nat) (a0 a1 b0 b1 : Value) (t : TypeId) (x y : Value) (w' : World) : Prop := Box w' a t #[a0, a1] ∧ Box w' b t #[b0, b1] ∧ KeepR w (w.heap.size + 2) t x y w'
theorem KeepT.step {w w1 w2 : World} {a b : Nat} {a0 a1 b0 b1 x y : Value} {t : TypeId} (h : KeepT w a b a0 a1 b0 b1 t x y w1) (hb : Below w1.heap.size w1 w2) : KeepT w a b a0 a1 b0 b1 t x y w2 := ⟨h.1.below hb h.1.lt, h.2.1.below hb h.2.1.lt, h.2.2.step hb⟩
theorem KeepT.put {w w1 : World} {a b : Nat} {a0 a1 b0 b1 x y : Value} {t : TypeId} (h : KeepT w a b a0 a1 b0 b1 t x y w1) (ha : w.heap.size + 2 < a) (hb : w.heap.size + 2 < b) : KeepT w a b a0 a1 b0 b1 t x y ((w1.setCell ⟨w.heap.size + 2, 0, none⟩ x).setCell ⟨w.heap.size + 2, 1, none⟩ y) :=
  ⟨(h.1.far (by omega) _ _).far (by omega) _ _, (h.2.1.far (by omega) _ _).far (by omega) _ _, h.2.2.put (by omega)⟩
theorem KeepT.cells {w w' : World} {a b : Nat} {a0 a1 b0 b1 x y : Value} {t : TypeId} (h : KeepT w a b a0 a1 b0 b1 t x y w') : w'.cell? ⟨a, 0, none⟩ = some a0 ∧ w'.cell? ⟨a, 1, none⟩ = some a1 ∧ w'.cell? ⟨b, 0, none⟩ = some b0 ∧ w'.cell? ⟨b, 1, none⟩ = some b1 ∧ KeepT w a b a0 a1 b0 b1 t x y w' := ⟨h.1.cell 0, h.1.cell 1, h.2.1.cell 0, h.2.1.cell 1, h⟩

set_option maxRecDepth 100000 in
set_option maxHeartbeats 6400000 in
theorem apply5_any (_lo lo' : Nat) (P : Prg) (Av Ax As Ap Ab A1 : Option Addr) (cv cx cs cp cb c1 n1 k : Nat) (op a b v : Int) (g : Nat → Int × Int) (w : World) (ho : exOk op a b v k P.nv = true) (hk : k < n1) (_hn1 : n1 ≤ 1000) (_hnv : P.nv ≤ 5) (hv : ∀ j, j < P.nv → 1 ≤ P.vz j ∧ P.vz j ≤ 21) (hg : ∀ j, IvOk (g j)) (hc : ∀ j, j < k → ∃ bb off, A1 = some ⟨bb, off, none⟩ ∧ bb < w.heap.size ∧ w.cell? ⟨bb, off + j * 2, none⟩ = some (.int .i64 (g j).1) ∧ w.cell? ⟨bb, off + j * 2 + 1, none⟩ = some (.int .i64 (g j).2)) (hi : VrAt lo' w Av P.nv P.vn P.vz) :
    Calls Tryz.prog 112 #[.agg #[.slice Av P.nv cv, .slice Ax P.nx cx, .slice As P.ns cs, .slice Ap P.np cp, .slice Ab P.nb cb, .int .i64 P.fuel], .agg #[.int .i64 op, .int .i64 a, .int .i64 b, .int .i64 v], .slice A1 n1 c1] w fun e w' => e = .returned (.agg #[.int .i64 (exR op a b v g P.vz).1, .int .i64 (exR op a b v g P.vz).2]) ∧ Below w.heap.size w w' := by
  by_cases o1 : op = 1
  · have hv : exR op a b v g P.vz = (v, v) := by rw [exR, if_pos o1]
    rw [hv]
    have e1 : (op == 1) = true := by rw [o1]; rfl
    obtain ⟨w3, hw3⟩ : ∃ w3, w3 = ((w.alloc (.cells #[.slice Av P.nv cv, .slice Ax P.nx cx, .slice As P.ns cs, .slice Ap P.np cp, .slice Ab P.nb cb, .int .i64 P.fuel] 38)).alloc (.cells #[.int .i64 op, .int .i64 a, .int .i64 b, .int .i64 v] 152)).alloc (.cells #[.int .i64 0, .int .i64 0] 70) := ⟨_, rfl⟩
    have hP : Box w3 w.heap.size 38 #[.slice Av P.nv cv, .slice Ax P.nx cx, .slice As P.ns cs, .slice Ap P.np cp, .slice Ab P.nb cb, .int .i64 P.fuel] := by rw [hw3]; exact ((Box.new w 38 #[.slice Av P.nv cv, .slice Ax P.nx cx, .slice As P.ns cs, .slice Ap P.np cp, .slice Ab P.nb cb, .int .i64 P.fuel]).alloc _).alloc _
    have hX : Box w3 (w.heap.size + 1) 152 #[.int .i64 op, .int .i64 a, .int .i64 b, .int .i64 v] := by
      have := (Box.new (w.alloc (.cells #[.slice Av P.nv cv, .slice Ax P.nx cx, .slice As P.ns cs, .slice Ap P.np cp, .slice Ab P.nb cb, .int .i64 P.fuel] 38)) 152 #[.int .i64 op, .int .i64 a, .int .i64 b, .int .i64 v]).alloc (.cells #[.int .i64 0, .int .i64 0] 70)
      rw [World.size_alloc] at this
      rw [hw3]; exact this
    have hR : Box w3 (w.heap.size + 2) 70 #[.int .i64 0, .int .i64 0] := by
      have := Box.new ((w.alloc (.cells #[.slice Av P.nv cv, .slice Ax P.nx cx, .slice As P.ns cs, .slice Ap P.np cp, .slice Ab P.nb cb, .int .i64 P.fuel] 38)).alloc (.cells #[.int .i64 op, .int .i64 a, .int .i64 b, .int .i64 v] 152)) 70 #[.int .i64 0, .int .i64 0]
      rw [World.size_alloc, World.size_alloc] at this
      rw [hw3]; exact this
    have hB : Below w.heap.size w w3 := by rw [hw3]; exact (((Below.refl _ w).alloc (Nat.le_refl _) _).alloc (by simp) _).alloc (by simp; omega) _
    have hz3 : w3.heap.size = w.heap.size + 3 := by rw [hw3]; simp
    have x0 := hX.cell 0
    have x1 := hX.cell 1
    have x2 := hX.cell 2
    have x3 := hX.cell 3
    obtain ⟨r0, r1, rf⟩ := hR.duo
    clear ho hc hi hv o1
    go_enter Tryz.func112, Tryz.ntmps112
    go_upto_region 1 with fail
    rw [← hw3]
    clear hw3
    go_wp2_with fail
    have hF := (hR.set 0 (.int .i64 (v))).set 1 (.int .i64 (v))
    have k0 := hF.cell 0
    have k1 := hF.cell 1
    exact bodyPost_ret (v := .agg #[.int .i64 (v), .int .i64 (v)]) (by simp [results, Tryz.results112, go_sem, k0, k1]; done) rfl ⟨rfl, (hB.setCell (p := ⟨w.heap.size + 2, 0, none⟩) (by show w.heap.size ≤ w.heap.size + 2; omega) _).setCell (p := ⟨w.heap.size + 2, 1, none⟩) (by show w.heap.size ≤ w.heap.size + 2; omega) _⟩
  · have e1 : (op == 1) = false := beq_eq_false_iff_ne.2 o1
    by_cases o2 : op = 2
    · have e2 : (op == 2) = true := by rw [o2]; rfl
      simp only [exOk, if_neg o1, if_pos o2, decide_eq_true_eq] at ho
      obtain ⟨m, rfl⟩ : ∃ m : Nat, v = (m : Int) := ⟨v.toNat, by omega⟩
      have hm : m < P.nv := by omega
      have hmi : (m : Int) < (P.nv : Int) := by omega
      obtain ⟨bw, ow, rfl, hbw, s0, s1⟩ := hi.at_ hm
      have hz := hv m hm
      have wz : IntKind.i64.wrap (P.vz m - 1) = P.vz m - 1 := IntWalk.i64_in _ (by omega)
      have he : exR op a b (m : Nat) g P.vz = (0, P.vz m - 1) := by rw [exR, if_neg o1, if_pos o2, Int.toNat_natCast]
      rw [he]
      obtain ⟨w3, hw3⟩ : ∃ w3, w3 = ((w.alloc (.cells #[.slice (some ⟨bw, ow, none⟩) P.nv cv, .slice Ax P.nx cx, .slice As P.ns cs, .slice Ap P.np cp, .slice Ab P.nb cb, .int .i64 P.fuel] 38)).alloc (.cells #[.int .i64 op, .int .i64 a, .int .i64 b, .int .i64 (m : Nat)] 152)).alloc (.cells #[.int .i64 0, .int .i64 0] 70) := ⟨_, rfl⟩
      have hP : Box w3 w.heap.size 38 #[.slice (some ⟨bw, ow, none⟩) P.nv cv, .slice Ax P.nx cx, .slice As P.ns cs, .slice Ap P.np cp, .slice Ab P.nb cb, .int .i64 P.fuel] := by rw [hw3]; exact ((Box.new w 38 #[.slice (some ⟨bw, ow, none⟩) P.nv cv, .slice Ax P.nx cx, .slice As P.ns cs, .slice Ap P.np cp, .slice Ab P.nb cb, .int .i64 P.fuel]).alloc _).alloc _
      have hX : Box w3 (w.heap.size + 1) 152 #[.int .i64 op, .int .i64 a, .int .i64 b, .int .i64 (m : Nat)] := by
        have := (Box.new (w.alloc (.cells #[.slice (some ⟨bw, ow, none⟩) P.nv cv, .slice Ax P.nx cx, .slice As P.ns cs, .slice Ap P.np cp, .slice Ab P.nb cb, .int .i64 P.fuel] 38)) 152 #[.int .i64 op, .int .i64 a, .int .i64 b, .int .i64 (m : Nat)]).alloc (.cells #[.int .i64 0, .int .i64 0] 70)
        rw [World.size_alloc] at this
        rw [hw3]; exact this
      have hR : Box w3 (w.heap.size + 2) 70 #[.int .i64 0, .int .i64 0] := by
        have := Box.new ((w.alloc (.cells #[.slice (some ⟨bw, ow, none⟩) P.nv cv, .slice Ax P.nx cx, .slice As P.ns cs, .slice Ap P.np cp, .slice Ab P.nb cb, .int .i64 P.fuel] 38)).alloc (.cells #[.int .i64 op, .int .i64 a, .int .i64 b, .int .i64 (m : Nat)] 152)) 70 #[.int .i64 0, .int .i64 0]
        rw [World.size_alloc, World.size_alloc] at this
        rw [hw3]; exact this
      have hB : Below w.heap.size w w3 := by rw [hw3]; exact (((Below.refl _ w).alloc (Nat.le_refl _) _).alloc (by simp) _).alloc (by simp; omega) _
      have hz3 : w3.heap.size = w.heap.size + 3 := by rw [hw3]; simp
      have x0 := hX.cell 0
      have x1 := hX.cell 1
      have x2 := hX.cell 2
      have x3 := hX.cell 3
      obtain ⟨r0, r1, rf⟩ := hR.duo
      have p0 := hP.cell 0
      have s1' := (hB.cell (p := ⟨bw, ow + m * 2 + 1, none⟩) hbw).trans s1
      clear ho hc hi hv hz o1 o2 he s0 s1
      go_enter Tryz.func112, Tryz.ntmps112
      go_upto_region 1 with fail
      rw [← hw3]
      clear hw3
      go_wp2_with fail
      have hF := (hR.set 0 (.int .i64 (0))).set 1 (.int .i64 (P.vz m - 1))
      have k0 := hF.cell 0
      have k1 := hF.cell 1
      exact bodyPost_ret (v := .agg #[.int .i64 (0), .int .i64 (P.vz m - 1)]) (by simp [results, Tryz.results112, go_sem, k0, k1]; done) rfl ⟨rfl, (hB.setCell (p := ⟨w.heap.size + 2, 0, none⟩) (by show w.heap.size ≤ w.heap.size + 2; omega) _).setCell (p := ⟨w.heap.size + 2, 1, none⟩) (by show w.heap.size ≤ w.heap.size + 2; omega) _⟩
    · have e2 : (op == 2) = false := beq_eq_false_iff_ne.2 o2
      have hab : (3 ≤ op ∧ op ≤ 10) ∧ (0 ≤ a ∧ a < (k : Int)) ∧ 0 ≤ b ∧ b < (k : Int) := by
        by_cases o10 : op = 10
        · simp only [exOk, if_neg o1, if_neg o2, if_pos o10, decide_eq_true_eq] at ho
          omega
        · simp only [exOk, if_neg o1, if_neg o2, if_neg o10, decide_eq_true_eq] at ho
          omega
      obtain ⟨hop, ⟨ha0, ha1⟩, hb0, hb1⟩ := hab
      obtain ⟨i, rfl⟩ : ∃ i : Nat, a = (i : Int) := ⟨a.toNat, by omega⟩
      obtain ⟨j, rfl⟩ : ∃ j : Nat, b = (j : Int) := ⟨b.toNat, by omega⟩
      have hin : (i : Int) < (n1 : Int) := by omega
      have hjn : (j : Int) < (n1 : Int) := by omega
      obtain ⟨bb, off, rfl, hbb, s0, s1⟩ := hc i (by omega)
      obtain ⟨bb', off', e', _, u0, u1⟩ := hc j (by omega)
      injection e' with e'
      injection e' with ee1 ee2 _
      subst ee1 ee2
      rw [opR_var o1 o2, Int.toNat_natCast, Int.toNat_natCast]
      have gi := hg i
      have gj := hg j
      obtain ⟨al, ah, hgi⟩ : ∃ al ah, g i = (al, ah) := ⟨_, _, rfl⟩
      obtain ⟨bl, bh, hgj⟩ : ∃ bl bh, g j = (bl, bh) := ⟨_, _, rfl⟩
      rw [hgi] at s0 s1 gi ⊢
      rw [hgj] at u0 u1 gj ⊢
      dsimp only at s0 s1 u0 u1 ⊢
      clear hgi hgj hc hi hv hg ho ha0 ha1 hb0 hb1
      obtain ⟨w3, hw3⟩ : ∃ w3, w3 = ((w.alloc (.cells #[.slice Av P.nv cv, .slice Ax P.nx cx, .slice As P.ns cs, .slice Ap P.np cp, .slice Ab P.nb cb, .int .i64 P.fuel] 38)).alloc (.cells #[.int .i64 op, .int .i64 (i : Nat), .int .i64 (j : Nat), .int .i64 v] 152)).alloc (.cells #[.int .i64 0, .int .i64 0] 70) := ⟨_, rfl⟩
      have hP : Box w3 w.heap.size 38 #[.slice Av P.nv cv, .slice Ax P.nx cx, .slice As P.ns cs, .slice Ap P.np cp, .slice Ab P.nb cb, .int .i64 P.fuel] := by rw [hw3]; exact ((Box.new w 38 #[.slice Av P.nv cv, .slice Ax P.nx cx, .slice As P.ns cs, .slice Ap P.np cp, .slice Ab P.nb cb, .int .i64 P.fuel]).alloc _).alloc _
      have hX : Box w3 (w.heap.size + 1) 152 #[.int .i64 op, .int .i64 (i : Nat), .int .i64 (j : Nat), .int .i64 v] := by
        have := (Box.new (w.alloc (.cells #[.slice Av P.nv cv, .slice Ax P.nx cx, .slice As P.ns cs, .slice Ap P.np cp, .slice Ab P.nb cb, .int .i64 P.fuel] 38)) 152 #[.int .i64 op, .int .i64 (i : Nat), .int .i64 (j : Nat), .int .i64 v]).alloc (.cells #[.int .i64 0, .int .i64 0] 70)
        rw [World.size_alloc] at this
        rw [hw3]; exact this
      have hR : Box w3 (w.heap.size + 2) 70 #[.int .i64 0, .int .i64 0] := by
        have := Box.new ((w.alloc (.cells #[.slice Av P.nv cv, .slice Ax P.nx cx, .slice As P.ns cs, .slice Ap P.np cp, .slice Ab P.nb cb, .int .i64 P.fuel] 38)).alloc (.cells #[.int .i64 op, .int .i64 (i : Nat), .int .i64 (j : Nat), .int .i64 v] 152)) 70 #[.int .i64 0, .int .i64 0]
        rw [World.size_alloc, World.size_alloc] at this
        rw [hw3]; exact this
      have hB : Below w.heap.size w w3 := by rw [hw3]; exact (((Below.refl _ w).alloc (Nat.le_refl _) _).alloc (by simp) _).alloc (by simp; omega) _
      have hz3 : w3.heap.size = w.heap.size + 3 := by rw [hw3]; simp
      have x0 := hX.cell 0
      have x1 := hX.cell 1
      have x2 := hX.cell 2
      have x3 := hX.cell 3
      obtain ⟨r0, r1, rf⟩ := hR.duo
      have t0 := (hB.cell (p := ⟨bb, off + i * 2, none⟩) hbb).trans s0
      have t1 := (hB.cell (p := ⟨bb, off + i * 2 + 1, none⟩) hbb).trans s1
      have t2 := (hB.cell (p := ⟨bb, off + j * 2, none⟩) hbb).trans u0
      have t3 := (hB.cell (p := ⟨bb, off + j * 2 + 1, none⟩) hbb).trans u1
      have hA := Box.new w3 70 #[.int .i64 al, .int .i64 ah]
      rw [hz3] at hA
      have ha4 := (Below.refl w3.heap.size w3).alloc (Nat.le_refl _) (.cells #[.int .i64 al, .int .i64 ah] 70)
      have CK : Hid (∀ p W, _) := Lib.hid fun p W => known_any p W
      have CY : Hid (∀ a b W, _) := Lib.hid fun a b W => yes_any a b W
      have CN : Hid (∀ a b W, _) := Lib.hid fun a b W => no_any a b W
      have CL : Hid (∀ a b W, _) := Lib.hid fun a b W => least_any a b W
      have CM : Hid (∀ a b W, _) := Lib.hid fun a b W => most3_any a b W
      obtain ⟨w4, hw4⟩ : ∃ w4, w4 = w3.alloc (.cells #[.int .i64 al, .int .i64 ah] 70) := ⟨_, rfl⟩
      have hbb4 : bb < w4.heap.size := by have := hB.size; have := ha4.size; rw [hw4]; omega
      have hz4 : w4.heap.size = w.heap.size + 4 := by rw [hw4]; simp [hz3]
      have hX4 := hX.alloc (.cells #[.int .i64 al, .int .i64 ah] 70)
      have hR4 := hR.alloc (.cells #[.int .i64 al, .int .i64 ah] 70)
      have hB4 := hB.trans (ha4.mono hB.size)
      rw [← hw4] at hA hX4 hR4 hB4 ha4
      have t2' := (ha4.cell (p := ⟨bb, off + j * 2, none⟩) (by have := hB.size; show bb < w3.heap.size; omega)).trans t2
      have t3' := (ha4.cell (p := ⟨bb, off + j * 2 + 1, none⟩) (by have := hB.size; show bb < w3.heap.size; omega)).trans t3
      clear s0 s1 u0 u1 t2 t3 hR hP r0 r1 rf
      by_cases o10 : op = 10
      · subst o10
        obtain ⟨gi1, gi2, gi3⟩ := gi
        dsimp only at gi1 gi2 gi3
        clear o1 o2 hop e1 e2
        by_cases hz1 : 0 < al
        · skip
          have y1 : decide (0 < al) = true := decide_eq_true (by omega)
          rw [opR10 al ah bl bh false false (Bool.eq_false_iff.2 fun h => by first | (simp at h; done) | (simp at h; omega)) (Bool.eq_false_iff.2 fun h => by first | (simp at h; done) | (simp at h; omega))]
          clear gi1 gi2 gi3 gj t2' t3'
          try clear hz1
          try clear hz2
          go_enter Tryz.func112, Tryz.ntmps112
          go_upto_region 1 with fail
          rw [← hw3]
          clear hw3
          go_upto_region 7 with fail
          rw [← hw4]
          clear hw4 x0 x1 x2 x3 t0 t1
          have x0 := hX4.cell 0
          have x1 := hX4.cell 1
          have x2 := hX4.cell 2
          have x3 := hX4.cell 3
          obtain ⟨a0, a1, af⟩ := hA.duo
          obtain ⟨r0, r1, rf⟩ := hR4.duo
          go_wp2_with (first | (go_at_call 171; refine (CK.out _ _).mono ?_; rintro e w' ⟨rfl, hb⟩; clear x0 x1 x2 x3 a0 a1 af r0 r1 rf; replace hA := hA.below hb hA.lt; replace hX4 := hX4.below hb hX4.lt; replace hR4 := hR4.below hb hR4.lt; replace hB4 := hB4.trans (hb.mono hB4.size); have x0 := hX4.cell 0; have x1 := hX4.cell 1; have x2 := hX4.cell 2; have x3 := hX4.cell 3; obtain ⟨a0, a1, af⟩ := hA.duo; obtain ⟨r0, r1, rf⟩ := hR4.duo) | (go_at_call 53; refine (CY.out _ _ _).mono ?_; rintro e w' ⟨rfl, hb⟩; clear x0 x1 x2 x3 a0 a1 af r0 r1 rf; replace hA := hA.below hb hA.lt; replace hX4 := hX4.below hb hX4.lt; replace hR4 := hR4.below hb hR4.lt; replace hB4 := hB4.trans (hb.mono hB4.size); have x0 := hX4.cell 0; have x1 := hX4.cell 1; have x2 := hX4.cell 2; have x3 := hX4.cell 3; obtain ⟨a0, a1, af⟩ := hA.duo; obtain ⟨r0, r1, rf⟩ := hR4.duo) | (go_at_call 54; refine (CN.out _ _ _).mono ?_; rintro e w' ⟨rfl, hb⟩; clear x0 x1 x2 x3 a0 a1 af r0 r1 rf; replace hA := hA.below hb hA.lt; replace hX4 := hX4.below hb hX4.lt; replace hR4 := hR4.below hb hR4.lt; replace hB4 := hB4.trans (hb.mono hB4.size); have x0 := hX4.cell 0; have x1 := hX4.cell 1; have x2 := hX4.cell 2; have x3 := hX4.cell 3; obtain ⟨a0, a1, af⟩ := hA.duo; obtain ⟨r0, r1, rf⟩ := hR4.duo))
          have hF := (hR4.set 0 (.int .i64 (tr false))).set 1 (.int .i64 (tr false))
          have k0 := hF.cell 0
          have k1 := hF.cell 1
          exact bodyPost_ret (v := .agg #[.int .i64 (tr false), .int .i64 (tr false)]) (by simp [results, Tryz.results112, go_sem, k0, k1]; done) rfl ⟨rfl, (hB4.setCell (p := ⟨w.heap.size + 2, 0, none⟩) (by show w.heap.size ≤ w.heap.size + 2; omega) _).setCell (p := ⟨w.heap.size + 2, 1, none⟩) (by show w.heap.size ≤ w.heap.size + 2; omega) _⟩
        · by_cases hz2 : ah = 0
          · skip
            have y1 : decide (0 < al) = false := decide_eq_false (by omega)
            have n1 : (ah == 0) = true := beq_iff_eq.2 (by omega)
            rw [opR10 al ah bl bh true true (by first | (simp; done) | (simp; omega)) (by first | (simp; done) | (simp; omega))]
            clear gi1 gi2 gi3 gj t2' t3'
            try clear hz1
            try clear hz2
            go_enter Tryz.func112, Tryz.ntmps112
            go_upto_region 1 with fail
            rw [← hw3]
            clear hw3
            go_upto_region 7 with fail
            rw [← hw4]
            clear hw4 x0 x1 x2 x3 t0 t1
            have x0 := hX4.cell 0
            have x1 := hX4.cell 1
            have x2 := hX4.cell 2
            have x3 := hX4.cell 3
            obtain ⟨a0, a1, af⟩ := hA.duo
            obtain ⟨r0, r1, rf⟩ := hR4.duo
            go_wp2_with (first | (go_at_call 171; refine (CK.out _ _).mono ?_; rintro e w' ⟨rfl, hb⟩; clear x0 x1 x2 x3 a0 a1 af r0 r1 rf; replace hA := hA.below hb hA.lt; replace hX4 := hX4.below hb hX4.lt; replace hR4 := hR4.below hb hR4.lt; replace hB4 := hB4.trans (hb.mono hB4.size); have x0 := hX4.cell 0; have x1 := hX4.cell 1; have x2 := hX4.cell 2; have x3 := hX4.cell 3; obtain ⟨a0, a1, af⟩ := hA.duo; obtain ⟨r0, r1, rf⟩ := hR4.duo) | (go_at_call 53; refine (CY.out _ _ _).mono ?_; rintro e w' ⟨rfl, hb⟩; clear x0 x1 x2 x3 a0 a1 af r0 r1 rf; replace hA := hA.below hb hA.lt; replace hX4 := hX4.below hb hX4.lt; replace hR4 := hR4.below hb hR4.lt; replace hB4 := hB4.trans (hb.mono hB4.size); have x0 := hX4.cell 0; have x1 := hX4.cell 1; have x2 := hX4.cell 2; have x3 := hX4.cell 3; obtain ⟨a0, a1, af⟩ := hA.duo; obtain ⟨r0, r1, rf⟩ := hR4.duo) | (go_at_call 54; refine (CN.out _ _ _).mono ?_; rintro e w' ⟨rfl, hb⟩; clear x0 x1 x2 x3 a0 a1 af r0 r1 rf; replace hA := hA.below hb hA.lt; replace hX4 := hX4.below hb hX4.lt; replace hR4 := hR4.below hb hR4.lt; replace hB4 := hB4.trans (hb.mono hB4.size); have x0 := hX4.cell 0; have x1 := hX4.cell 1; have x2 := hX4.cell 2; have x3 := hX4.cell 3; obtain ⟨a0, a1, af⟩ := hA.duo; obtain ⟨r0, r1, rf⟩ := hR4.duo))
            have hF := (hR4.set 0 (.int .i64 (tr true))).set 1 (.int .i64 (tr true))
            have k0 := hF.cell 0
            have k1 := hF.cell 1
            exact bodyPost_ret (v := .agg #[.int .i64 (tr true), .int .i64 (tr true)]) (by simp [results, Tryz.results112, go_sem, k0, k1]; done) rfl ⟨rfl, (hB4.setCell (p := ⟨w.heap.size + 2, 0, none⟩) (by show w.heap.size ≤ w.heap.size + 2; omega) _).setCell (p := ⟨w.heap.size + 2, 1, none⟩) (by show w.heap.size ≤ w.heap.size + 2; omega) _⟩
          · skip
            have y1 : decide (0 < al) = false := decide_eq_false (by omega)
            have n1 : (ah == 0) = false := beq_eq_false_iff_ne.2 (by omega)
            rw [opR10 al ah bl bh false true (Bool.eq_false_iff.2 fun h => by first | (simp at h; done) | (simp at h; omega)) (by first | (simp; done) | (simp; omega))]
            clear gi1 gi2 gi3 gj t2' t3'
            try clear hz1
            try clear hz2
            go_enter Tryz.func112, Tryz.ntmps112
            go_upto_region 1 with fail
            rw [← hw3]
            clear hw3
            go_upto_region 7 with fail
            rw [← hw4]
            clear hw4 x0 x1 x2 x3 t0 t1
            have x0 := hX4.cell 0
            have x1 := hX4.cell 1
            have x2 := hX4.cell 2
            have x3 := hX4.cell 3
            obtain ⟨a0, a1, af⟩ := hA.duo
            obtain ⟨r0, r1, rf⟩ := hR4.duo
            go_wp2_with (first | (go_at_call 171; refine (CK.out _ _).mono ?_; rintro e w' ⟨rfl, hb⟩; clear x0 x1 x2 x3 a0 a1 af r0 r1 rf; replace hA := hA.below hb hA.lt; replace hX4 := hX4.below hb hX4.lt; replace hR4 := hR4.below hb hR4.lt; replace hB4 := hB4.trans (hb.mono hB4.size); have x0 := hX4.cell 0; have x1 := hX4.cell 1; have x2 := hX4.cell 2; have x3 := hX4.cell 3; obtain ⟨a0, a1, af⟩ := hA.duo; obtain ⟨r0, r1, rf⟩ := hR4.duo) | (go_at_call 53; refine (CY.out _ _ _).mono ?_; rintro e w' ⟨rfl, hb⟩; clear x0 x1 x2 x3 a0 a1 af r0 r1 rf; replace hA := hA.below hb hA.lt; replace hX4 := hX4.below hb hX4.lt; replace hR4 := hR4.below hb hR4.lt; replace hB4 := hB4.trans (hb.mono hB4.size); have x0 := hX4.cell 0; have x1 := hX4.cell 1; have x2 := hX4.cell 2; have x3 := hX4.cell 3; obtain ⟨a0, a1, af⟩ := hA.duo; obtain ⟨r0, r1, rf⟩ := hR4.duo) | (go_at_call 54; refine (CN.out _ _ _).mono ?_; rintro e w' ⟨rfl, hb⟩; clear x0 x1 x2 x3 a0 a1 af r0 r1 rf; replace hA := hA.below hb hA.lt; replace hX4 := hX4.below hb hX4.lt; replace hR4 := hR4.below hb hR4.lt; replace hB4 := hB4.trans (hb.mono hB4.size); have x0 := hX4.cell 0; have x1 := hX4.cell 1; have x2 := hX4.cell 2; have x3 := hX4.cell 3; obtain ⟨a0, a1, af⟩ := hA.duo; obtain ⟨r0, r1, rf⟩ := hR4.duo))
            have hF := (hR4.set 0 (.int .i64 (0))).set 1 (.int .i64 (1))
            have k0 := hF.cell 0
            have k1 := hF.cell 1
            exact bodyPost_ret (v := .agg #[.int .i64 (0), .int .i64 (1)]) (by simp [results, Tryz.results112, go_sem, k0, k1]; done) rfl ⟨rfl, (hB4.setCell (p := ⟨w.heap.size + 2, 0, none⟩) (by show w.heap.size ≤ w.heap.size + 2; omega) _).setCell (p := ⟨w.heap.size + 2, 1, none⟩) (by show w.heap.size ≤ w.heap.size + 2; omega) _⟩
      · have e10 : (op == 10) = false := beq_eq_false_iff_ne.2 o10
        have hBb := Box.new w4 70 #[.int .i64 bl, .int .i64 bh]
        rw [hz4] at hBb
        have ha5 := (Below.refl w4.heap.size w4).alloc (Nat.le_refl _) (.cells #[.int .i64 bl, .int .i64 bh] 70)
        obtain ⟨w5, hw5⟩ : ∃ w5, w5 = w4.alloc (.cells #[.int .i64 bl, .int .i64 bh] 70) := ⟨_, rfl⟩
        have hA5 := hA.alloc (.cells #[.int .i64 bl, .int .i64 bh] 70)
        have hX5 := hX4.alloc (.cells #[.int .i64 bl, .int .i64 bh] 70)
        have hR5 := hR4.alloc (.cells #[.int .i64 bl, .int .i64 bh] 70)
        have hB5 := hB4.trans (ha5.mono hB4.size)
        rw [← hw5] at hBb hA5 hX5 hR5 hB5
        have CP := Lib.hid (fun W ho => compare5_any op al ah bl bh W gi gj ho)
        have CG := Lib.hid (fun W ho => logic5_any op al ah bl bh W gi gj ho)
        have IA := gi.at_
        have IB := gj.at_
        dsimp only at IA IB
        have hm1 : 0 ≤ al * bl ∧ al * bl ≤ 20 * 20 := ⟨Int.mul_nonneg (by omega) (by omega), Int.mul_le_mul (by omega) (by omega) (by omega) (by omega)⟩
        have hm2 : 0 ≤ ah * bh ∧ ah * bh ≤ 20 * 20 := ⟨Int.mul_nonneg (by omega) (by omega), Int.mul_le_mul (by omega) (by omega) (by omega) (by omega)⟩
        have w1 : IntKind.i64.wrap (al + bl) = al + bl := IntWalk.i64_in _ (by omega)
        have w2 : IntKind.i64.wrap (ah + bh) = ah + bh := IntWalk.i64_in _ (by omega)
        have w3' : IntKind.i64.wrap (al - bh) = al - bh := IntWalk.i64_in _ (by omega)
        have w4' : IntKind.i64.wrap (ah - bl) = ah - bl := IntWalk.i64_in _ (by omega)
        have w5' : IntKind.i64.wrap (al * bl) = al * bl := IntWalk.i64_in _ (by omega)
        have w6' : IntKind.i64.wrap (ah * bh) = ah * bh := IntWalk.i64_in _ (by omega)
        have hcs : op = 3 ∨ op = 5 ∨ op = 4 ∨ (op = 6 ∨ op = 7) ∨ (op = 8 ∨ op = 9) := by omega
        clear hm1 hm2 gi gj IA IB o1 o2 o10 hop ha4 ha5
        rcases hcs with rfl | rfl | rfl | h67 | h89
        · have HV : Hid (opR 3 al ah bl bh = (min (al + bl) 20, min (ah + bh) 20)) := Lib.hid rfl
          rw [HV.out]
          clear CP CG HV
          go_enter Tryz.func112, Tryz.ntmps112
          go_upto_region 1 with fail
          rw [← hw3]
          clear hw3
          go_upto_region 7 with fail
          rw [← hw4]
          clear hw4 x0 x1 x2 x3 t0 t1
          have x0 := hX4.cell 0
          have x1 := hX4.cell 1
          have x2 := hX4.cell 2
          have x3 := hX4.cell 3
          obtain ⟨a0, a1, af⟩ := hA.duo
          obtain ⟨r0, r1, rf⟩ := hR4.duo
          go_upto_region 14 with fail
          rw [← hw5]
          clear hw5 t2' t3' hA hX4 hR4 hB4
          clear x0 x1 x2 x3 a0 a1 af r0 r1 rf
          have x0 := hX5.cell 0
          have x1 := hX5.cell 1
          have x2 := hX5.cell 2
          have x3 := hX5.cell 3
          obtain ⟨a0, a1, af⟩ := hA5.duo
          obtain ⟨b0, b1, bf⟩ := hBb.duo
          obtain ⟨r0, r1, rf⟩ := hR5.duo
          go_upto_region 16 with fail
          have KT0 : KeepT w (w.heap.size + 3) (w.heap.size + 4) (.int .i64 al) (.int .i64 ah) (.int .i64 bl) (.int .i64 bh) 70 (.int .i64 (min (al + bl) 20)) (.int .i64 (min (ah + bh) 20)) w5 := ⟨hA5, hBb, .inl hR5, hB5⟩
          have HK0 := Lib.hid KT0
          clear KT0 a0 a1 af b0 b1 bf hA5 hBb hB5 hX5 x0 x1 x2 x3
          go_region_held3 (fun w' => w'.cell? ⟨w.heap.size + 3, 0, none⟩ = some (.int .i64 al) ∧ w'.cell? ⟨w.heap.size + 3, 1, none⟩ = some (.int .i64 ah) ∧ w'.cell? ⟨w.heap.size + 4, 0, none⟩ = some (.int .i64 bl) ∧ w'.cell? ⟨w.heap.size + 4, 1, none⟩ = some (.int .i64 bh) ∧ KeepT w (w.heap.size + 3) (w.heap.size + 4) (.int .i64 al) (.int .i64 ah) (.int .i64 bl) (.int .i64 bh) 70 (.int .i64 (min (al + bl) 20)) (.int .i64 (min (ah + bh) 20)) w')
            ((refine KeepT.cells ?_; first | exact HK0.out.step (Below.refl _ w5).drew | exact hold4r (by assumption) | exact KeepT.put (hold4r (by assumption)) (by omega) (by omega)))
            (first
              | (go_at_call 172; refine (CL.out _ _ _).mono ?_; rintro e w' ⟨rfl, rfl⟩))
          have hk8 : KeepT w (w.heap.size + 3) (w.heap.size + 4) (.int .i64 al) (.int .i64 ah) (.int .i64 bl) (.int .i64 bh) 70 (.int .i64 (min (al + bl) 20)) (.int .i64 (min (ah + bh) 20)) _ := hold4r (by assumption)
          go_wp2_with fail
          have hF : Box _ (w.heap.size + 2) 70 #[.int .i64 (min (al + bl) 20), .int .i64 (min (ah + bh) 20)] := (hR5.set 0 (.int .i64 (min (al + bl) 20))).set 1 (.int .i64 (min (ah + bh) 20))
          have k0 := (hF.below (Below.refl _ _).drew hF.lt).cell 0
          have k1 := (hF.below (Below.refl _ _).drew hF.lt).cell 1
          exact bodyPost_ret (v := .agg #[.int .i64 (min (al + bl) 20), .int .i64 (min (ah + bh) 20)]) (by simp [results, Tryz.results112, go_sem, k0, k1]; done) rfl ⟨rfl, hk8.2.2.2⟩
        · have HV : Hid (opR 5 al ah bl bh = (min (al * bl) 20, min (ah * bh) 20)) := Lib.hid rfl
          rw [HV.out]
          clear CP CG HV
          go_enter Tryz.func112, Tryz.ntmps112
          go_upto_region 1 with fail
          rw [← hw3]
          clear hw3
          go_upto_region 7 with fail
          rw [← hw4]
          clear hw4 x0 x1 x2 x3 t0 t1
          have x0 := hX4.cell 0
          have x1 := hX4.cell 1
          have x2 := hX4.cell 2
          have x3 := hX4.cell 3
          obtain ⟨a0, a1, af⟩ := hA.duo
          obtain ⟨r0, r1, rf⟩ := hR4.duo
          go_upto_region 14 with fail
          rw [← hw5]
          clear hw5 t2' t3' hA hX4 hR4 hB4
          clear x0 x1 x2 x3 a0 a1 af r0 r1 rf
          have x0 := hX5.cell 0
          have x1 := hX5.cell 1
          have x2 := hX5.cell 2
          have x3 := hX5.cell 3
          obtain ⟨a0, a1, af⟩ := hA5.duo
          obtain ⟨b0, b1, bf⟩ := hBb.duo
          obtain ⟨r0, r1, rf⟩ := hR5.duo
          go_upto_region 18 with fail
          have KT0 : KeepT w (w.heap.size + 3) (w.heap.size + 4) (.int .i64 al) (.int .i64 ah) (.int .i64 bl) (.int .i64 bh) 70 (.int .i64 (min (al * bl) 20)) (.int .i64 (min (ah * bh) 20)) w5 := ⟨hA5, hBb, .inl hR5, hB5⟩
          have HK0 := Lib.hid KT0
          clear KT0 a0 a1 af b0 b1 bf hA5 hBb hB5 hX5 x0 x1 x2 x3
          go_region_held3 (fun w' => w'.cell? ⟨w.heap.size + 3, 0, none⟩ = some (.int .i64 al) ∧ w'.cell? ⟨w.heap.size + 3, 1, none⟩ = some (.int .i64 ah) ∧ w'.cell? ⟨w.heap.size + 4, 0, none⟩ = some (.int .i64 bl) ∧ w'.cell? ⟨w.heap.size + 4, 1, none⟩ = some (.int .i64 bh) ∧ KeepT w (w.heap.size + 3) (w.heap.size + 4) (.int .i64 al) (.int .i64 ah) (.int .i64 bl) (.int .i64 bh) 70 (.int .i64 (min (al * bl) 20)) (.int .i64 (min (ah * bh) 20)) w')
            ((refine KeepT.cells ?_; first | exact HK0.out.step (Below.refl _ w5).drew | exact hold4r (by assumption) | exact KeepT.put (hold4r (by assumption)) (by omega) (by omega)))
            (first
              | (go_at_call 172; refine (CL.out _ _ _).mono ?_; rintro e w' ⟨rfl, rfl⟩))
          have hk8 : KeepT w (w.heap.size + 3) (w.heap.size + 4) (.int .i64 al) (.int .i64 ah) (.int .i64 bl) (.int .i64 bh) 70 (.int .i64 (min (al * bl) 20)) (.int .i64 (min (ah * bh) 20)) _ := hold4r (by assumption)
          go_wp2_with fail
          have hF : Box _ (w.heap.size + 2) 70 #[.int .i64 (min (al * bl) 20), .int .i64 (min (ah * bh) 20)] := (hR5.set 0 (.int .i64 (min (al * bl) 20))).set 1 (.int .i64 (min (ah * bh) 20))
          have k0 := (hF.below (Below.refl _ _).drew hF.lt).cell 0
          have k1 := (hF.below (Below.refl _ _).drew hF.lt).cell 1
          exact bodyPost_ret (v := .agg #[.int .i64 (min (al * bl) 20), .int .i64 (min (ah * bh) 20)]) (by simp [results, Tryz.results112, go_sem, k0, k1]; done) rfl ⟨rfl, hk8.2.2.2⟩
        · have HV : Hid (opR 4 al ah bl bh = (max (al - bh) 0, max (ah - bl) 0)) := Lib.hid rfl
          rw [HV.out]
          clear CP CG HV
          go_enter Tryz.func112, Tryz.ntmps112
          go_upto_region 1 with fail
          rw [← hw3]
          clear hw3
          go_upto_region 7 with fail
          rw [← hw4]
          clear hw4 x0 x1 x2 x3 t0 t1
          have x0 := hX4.cell 0
          have x1 := hX4.cell 1
          have x2 := hX4.cell 2
          have x3 := hX4.cell 3
          obtain ⟨a0, a1, af⟩ := hA.duo
          obtain ⟨r0, r1, rf⟩ := hR4.duo
          go_upto_region 14 with fail
          rw [← hw5]
          clear hw5 t2' t3' hA hX4 hR4 hB4
          clear x0 x1 x2 x3 a0 a1 af r0 r1 rf
          have x0 := hX5.cell 0
          have x1 := hX5.cell 1
          have x2 := hX5.cell 2
          have x3 := hX5.cell 3
          obtain ⟨a0, a1, af⟩ := hA5.duo
          obtain ⟨b0, b1, bf⟩ := hBb.duo
          obtain ⟨r0, r1, rf⟩ := hR5.duo
          go_upto_region 20 with fail
          have KT0 : KeepT w (w.heap.size + 3) (w.heap.size + 4) (.int .i64 al) (.int .i64 ah) (.int .i64 bl) (.int .i64 bh) 70 (.int .i64 (max (al - bh) 0)) (.int .i64 (max (ah - bl) 0)) w5 := ⟨hA5, hBb, .inl hR5, hB5⟩
          have HK0 := Lib.hid KT0
          clear KT0 a0 a1 af b0 b1 bf hA5 hBb hB5 hX5 x0 x1 x2 x3
          go_region_held3 (fun w' => w'.cell? ⟨w.heap.size + 3, 0, none⟩ = some (.int .i64 al) ∧ w'.cell? ⟨w.heap.size + 3, 1, none⟩ = some (.int .i64 ah) ∧ w'.cell? ⟨w.heap.size + 4, 0, none⟩ = some (.int .i64 bl) ∧ w'.cell? ⟨w.heap.size + 4, 1, none⟩ = some (.int .i64 bh) ∧ KeepT w (w.heap.size + 3) (w.heap.size + 4) (.int .i64 al) (.int .i64 ah) (.int .i64 bl) (.int .i64 bh) 70 (.int .i64 (max (al - bh) 0)) (.int .i64 (max (ah - bl) 0)) w')
            ((refine KeepT.cells ?_; first | exact HK0.out.step (Below.refl _ w5).drew | exact hold4r (by assumption) | exact KeepT.put (hold4r (by assumption)) (by omega) (by omega)))
            (first
              | (go_at_call 173; refine (CM.out _ _ _).mono ?_; rintro e w' ⟨rfl, rfl⟩))
          have hk8 : KeepT w (w.heap.size + 3) (w.heap.size + 4) (.int .i64 al) (.int .i64 ah) (.int .i64 bl) (.int .i64 bh) 70 (.int .i64 (max (al - bh) 0)) (.int .i64 (max (ah - bl) 0)) _ := hold4r (by assumption)
          go_wp2_with fail
          have hF : Box _ (w.heap.size + 2) 70 #[.int .i64 (max (al - bh) 0), .int .i64 (max (ah - bl) 0)] := (hR5.set 0 (.int .i64 (max (al - bh) 0))).set 1 (.int .i64 (max (ah - bl) 0))
          have k0 := (hF.below (Below.refl _ _).drew hF.lt).cell 0
          have k1 := (hF.below (Below.refl _ _).drew hF.lt).cell 1
          exact bodyPost_ret (v := .agg #[.int .i64 (max (al - bh) 0), .int .i64 (max (ah - bl) 0)]) (by simp [results, Tryz.results112, go_sem, k0, k1]; done) rfl ⟨rfl, hk8.2.2.2⟩
        · have HC := Lib.hid (CP.out · h67)
          obtain ⟨x, hx⟩ : ∃ x, x = (opR op al ah bl bh).1 := ⟨_, rfl⟩
          obtain ⟨y, hy⟩ : ∃ y, y = (opR op al ah bl bh).2 := ⟨_, rfl⟩
          rw [← hx, ← hy] at HC
          rw [← hx, ← hy]
          have d3 : (op == 3) = false := beq_eq_false_iff_ne.2 (by omega)
          have d5 : (op == 5) = false := beq_eq_false_iff_ne.2 (by omega)
          have d4 : (op == 4) = false := beq_eq_false_iff_ne.2 (by omega)
          have d67 : (op == 6) = true ∨ ((op == 6) = false ∧ (op == 7) = true) := by
            rcases h67 with h | h
            · exact .inl (by rw [h]; rfl)
            · exact .inr ⟨by rw [h]; rfl, by rw [h]; rfl⟩
          clear h67
          clear CP CG hx hy
          go_enter Tryz.func112, Tryz.ntmps112
          go_upto_region 1 with fail
          rw [← hw3]
          clear hw3
          go_upto_region 7 with fail
          rw [← hw4]
          clear hw4 x0 x1 x2 x3 t0 t1
          have x0 := hX4.cell 0
          have x1 := hX4.cell 1
          have x2 := hX4.cell 2
          have x3 := hX4.cell 3
          obtain ⟨a0, a1, af⟩ := hA.duo
          obtain ⟨r0, r1, rf⟩ := hR4.duo
          go_upto_region 14 with fail
          rw [← hw5]
          clear hw5 t2' t3' hA hX4 hR4 hB4
          clear x0 x1 x2 x3 a0 a1 af r0 r1 rf
          have x0 := hX5.cell 0
          have x1 := hX5.cell 1
          have x2 := hX5.cell 2
          have x3 := hX5.cell 3
          obtain ⟨a0, a1, af⟩ := hA5.duo
          obtain ⟨b0, b1, bf⟩ := hBb.duo
          obtain ⟨r0, r1, rf⟩ := hR5.duo
          rcases d67 with d6 | ⟨d6, d7⟩
          all_goals go_wp2_with (go_at_call 174; refine (HC.out _).mono ?_; rintro e w' ⟨rfl, hb⟩; clear x0 x1 x2 x3 a0 a1 af b0 b1 bf r0 r1 rf; replace hR5 := hR5.below hb hR5.lt; replace hB5 := hB5.trans (hb.mono hB5.size); obtain ⟨r0, r1, rf⟩ := hR5.duo)
          all_goals have hF := (hR5.set 0 (.int .i64 (x))).set 1 (.int .i64 (y))
          all_goals have k0 := hF.cell 0
          all_goals have k1 := hF.cell 1
          all_goals exact bodyPost_ret (v := .agg #[.int .i64 (x), .int .i64 (y)]) (by simp [results, Tryz.results112, go_sem, k0, k1]; done) rfl ⟨rfl, (hB5.setCell (p := ⟨w.heap.size + 2, 0, none⟩) (by show w.heap.size ≤ w.heap.size + 2; omega) _).setCell (p := ⟨w.heap.size + 2, 1, none⟩) (by show w.heap.size ≤ w.heap.size + 2; omega) _⟩
        · have HC := Lib.hid (CG.out · h89)
          obtain ⟨x, hx⟩ : ∃ x, x = (opR op al ah bl bh).1 := ⟨_, rfl⟩
          obtain ⟨y, hy⟩ : ∃ y, y = (opR op al ah bl bh).2 := ⟨_, rfl⟩
          rw [← hx, ← hy] at HC
          rw [← hx, ← hy]
          have d3 : (op == 3) = false := beq_eq_false_iff_ne.2 (by omega)
          have d5 : (op == 5) = false := beq_eq_false_iff_ne.2 (by omega)
          have d4 : (op == 4) = false := beq_eq_false_iff_ne.2 (by omega)
          have d6 : (op == 6) = false := beq_eq_false_iff_ne.2 (by omega)
          have d7 : (op == 7) = false := beq_eq_false_iff_ne.2 (by omega)
          clear h89
          clear CP CG hx hy
          go_enter Tryz.func112, Tryz.ntmps112
          go_upto_region 1 with fail
          rw [← hw3]
          clear hw3
          go_upto_region 7 with fail
          rw [← hw4]
          clear hw4 x0 x1 x2 x3 t0 t1
          have x0 := hX4.cell 0
          have x1 := hX4.cell 1
          have x2 := hX4.cell 2
          have x3 := hX4.cell 3
          obtain ⟨a0, a1, af⟩ := hA.duo
          obtain ⟨r0, r1, rf⟩ := hR4.duo
          go_upto_region 14 with fail
          rw [← hw5]
          clear hw5 t2' t3' hA hX4 hR4 hB4
          clear x0 x1 x2 x3 a0 a1 af r0 r1 rf
          have x0 := hX5.cell 0
          have x1 := hX5.cell 1
          have x2 := hX5.cell 2
          have x3 := hX5.cell 3
          obtain ⟨a0, a1, af⟩ := hA5.duo
          obtain ⟨b0, b1, bf⟩ := hBb.duo
          obtain ⟨r0, r1, rf⟩ := hR5.duo
          go_wp2_with (go_at_call 175; refine (HC.out _).mono ?_; rintro e w' ⟨rfl, hb⟩; clear x0 x1 x2 x3 a0 a1 af b0 b1 bf r0 r1 rf; replace hR5 := hR5.below hb hR5.lt; replace hB5 := hB5.trans (hb.mono hB5.size); obtain ⟨r0, r1, rf⟩ := hR5.duo)
          have hF := (hR5.set 0 (.int .i64 (x))).set 1 (.int .i64 (y))
          have k0 := hF.cell 0
          have k1 := hF.cell 1
          exact bodyPost_ret (v := .agg #[.int .i64 (x), .int .i64 (y)]) (by simp [results, Tryz.results112, go_sem, k0, k1]; done) rfl ⟨rfl, (hB5.setCell (p := ⟨w.heap.size + 2, 0, none⟩) (by show w.heap.size ≤ w.heap.size + 2; omega) _).setCell (p := ⟨w.heap.size + 2, 1, none⟩) (by show w.heap.size ≤ w.heap.size + 2; omega) _⟩

end Go.Proofs.YtdeilceakhgjlaaGreat
