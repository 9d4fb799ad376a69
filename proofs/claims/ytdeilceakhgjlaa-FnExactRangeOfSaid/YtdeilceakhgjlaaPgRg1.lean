/-
  Intervals of expressions: the mathematics, and the program's. (Written by gen_pgrg.py.)
-/
import Derived.Test.YtdeilceakhgjlaaPgEv4
import Derived.Test.YtdeilceakhgjlaaPgEv2
import Derived.Laws.StructEq
import Derived.Deep.RegionHeld3
namespace Go.Proofs.Ytdeilceakhgjlaa
open Go.RowKit Num

/-- An operator's interval, from its operands'. -/
def opR (o al ah bl bh : Int) : Int × Int :=
  if o = 4 then (opV 4 al bh, opV 4 ah bl) else if o = 6 then (tr (al == bl && ah == bh && al == ah), tr (decide (al ≤ bh) && decide (bl ≤ ah)))
  else if o = 7 ∨ o = 10 then (opV o ah bl, opV o al bh) else (opV o al bl, opV o ah bh)
/-- An expression's interval. -/
def exR (o a b v : Int) (g : Nat → Int × Int) (vz : Nat → Int) : Int × Int :=
  if o = 1 then (v, v) else if o = 2 then (0, vz v.toNat - 1) else opR o (g a.toNat).1 (g a.toNat).2 (g b.toNat).1 (g b.toNat).2
def rgs (F : Nat → Nat → Int) (vz : Nat → Int) : Nat → Nat → Int × Int
  | 0, _ => (0, 0)
  | k + 1, j => if j = k then exR (F k 0) (F k 1) (F k 2) (F k 3) (rgs F vz k) vz else rgs F vz k j
theorem rgs_zero (F : Nat → Nat → Int) (vz : Nat → Int) : rgs F vz 0 = fun _ => (0, 0) := by
  funext j
  rw [rgs]
theorem rgs_succ (F : Nat → Nat → Int) (vz : Nat → Int) (k : Nat) : rgs F vz (k + 1) = fun j => if j = k then exR (F k 0) (F k 1) (F k 2) (F k 3) (rgs F vz k) vz else rgs F vz k j := by
  funext j
  rw [rgs]
def IvOk (p : Int × Int) : Prop := 0 ≤ p.1 ∧ p.1 ≤ p.2 ∧ p.2 ≤ 20
theorem tr_01 (p : Bool) : 0 ≤ tr p ∧ tr p ≤ 1 := by cases p <;> decide
theorem tr_le {p q : Bool} (h : p = true → q = true) : tr p ≤ tr q := by
  cases p with
  | false => exact (tr_01 q).1
  | true => rw [h rfl]; decide
theorem opR_in {o al ah bl bh : Int} (h1 : IvOk (al, ah)) (h2 : IvOk (bl, bh)) (ho : 3 ≤ o ∧ o ≤ 10) : IvOk (opR o al ah bl bh) := by
  obtain ⟨a0, a1, a2⟩ := h1
  obtain ⟨b0, b1, b2⟩ := h2
  dsimp only at a0 a1 a2 b0 b1 b2
  have hm : al * bl ≤ ah * bh := Int.mul_le_mul a1 b1 b0 (by omega)
  have hm0 : 0 ≤ al * bl := Int.mul_nonneg a0 b0
  have hc : o = 3 ∨ o = 4 ∨ o = 5 ∨ o = 6 ∨ o = 7 ∨ o = 8 ∨ o = 9 ∨ o = 10 := by omega
  rcases hc with rfl | rfl | rfl | rfl | rfl | rfl | rfl | rfl
  · show IvOk (min (al + bl) 20, min (ah + bh) 20)
    unfold IvOk; dsimp only; omega
  · show IvOk (max (al - bh) 0, max (ah - bl) 0)
    unfold IvOk; dsimp only; omega
  · show IvOk (min (al * bl) 20, min (ah * bh) 20)
    unfold IvOk; dsimp only; omega
  all_goals
    refine ⟨(tr_01 _).1, tr_le fun h => ?_, Int.le_trans (tr_01 _).2 (by omega)⟩
    simp at h ⊢
    omega
theorem opR_var {o a b v : Int} {g : Nat → Int × Int} {vz : Nat → Int} (o1 : o ≠ 1) (o2 : o ≠ 2) : exR o a b v g vz = opR o (g a.toNat).1 (g a.toNat).2 (g b.toNat).1 (g b.toNat).2 := by rw [exR, if_neg o1, if_neg o2]

theorem IvOk.at_ {p : Int × Int} (h : IvOk p) : (0 ≤ p.1 ∧ p.1 ≤ 20) ∧ 0 ≤ p.2 ∧ p.2 ≤ 20 := by
  obtain ⟨h1, h2, h3⟩ := h
  omega
theorem exR_in {o a b v : Int} {k m : Nat} {g : Nat → Int × Int} {vz : Nat → Int} (ho : exOk o a b v k m = true) (hg : ∀ j, IvOk (g j)) (hv : ∀ j, j < m → 1 ≤ vz j ∧ vz j ≤ 21) : IvOk (exR o a b v g vz) := by
  by_cases o1 : o = 1
  · subst o1
    simp only [exOk, if_true, decide_eq_true_eq] at ho
    simp only [exR, if_true]
    unfold IvOk; dsimp only; omega
  · by_cases o2 : o = 2
    · subst o2
      simp only [exOk, if_neg o1, if_true, decide_eq_true_eq] at ho
      simp only [exR, if_neg o1, if_true]
      have := hv v.toNat (by omega)
      unfold IvOk; dsimp only; omega
    · rw [opR_var o1 o2]
      refine opR_in (hg _) (hg _) ?_
      by_cases o10 : o = 10
      · omega
      · simp only [exOk, if_neg o1, if_neg o2, if_neg o10, decide_eq_true_eq] at ho
        omega
theorem rgs_in {F : Nat → Nat → Int} {vz : Nat → Int} {m n : Nat} (h : exsOk F m n = true) (hv : ∀ j, j < m → 1 ≤ vz j ∧ vz j ≤ 21) : ∀ {k : Nat}, k ≤ n → ∀ j, IvOk (rgs F vz k j)
  | 0, _, j => by rw [rgs_zero]; exact ⟨Int.le_refl 0, Int.le_refl 0, show (0 : Int) ≤ 20 by decide⟩
  | k + 1, hk, j => by
    rw [rgs_succ]
    simp only []
    split
    · exact exR_in (exsOk_at h (by omega)) (rgs_in h hv (by omega)) hv
    · exact rgs_in h hv (by omega) j
theorem Box.duo {w : World} {g : Nat} {t : TypeId} {x y : Value} (h : Box w g t #[x, y]) : w.cell? ⟨g, 0, none⟩ = some x ∧ w.cell? ⟨g, 1, none⟩ = some y ∧ ∀ k, w.frozen? ⟨g, k, none⟩ = false := ⟨h.cell 0, h.cell 1, h.free⟩
theorem Try.und_Iv : Try.prog.underlying 69 = some (.struct (Try.prog.fieldsOf 69)) := by kernel_rfl

theorem Try.sih_Iv : Try.prog.stoodInHeld 69 = false := by kernel_rfl

theorem Try.flds_Iv : ((Try.prog.fieldsOf 69).toList.map fun f => (f.name, f.type, f.offset)) = [("least", 3, 0), ("greatest", 3, 1)] := by kernel_rfl

theorem eqfOfIv (a s : Int) (b t : Int) (W : World) : (Op.equalIn 10000 69 (.agg #[.int .i64 a, .int .i64 b]) (.agg #[.int .i64 s, .int .i64 t])).run Try.prog W = .ok ((a == s) && (b == t)) W := by
  rw [run_equalIn_agg _ 9999 _ _ _ Try.und_Iv Try.sih_Iv]
  have hf := Try.flds_Iv
  generalize (Try.prog.fieldsOf 69).toList = fs at hf ⊢
  obtain ⟨f0, fs, rfl, h0, hf⟩ := List.map_eq_cons_iff.1 hf
  obtain ⟨f1, fs, rfl, h1, hf⟩ := List.map_eq_cons_iff.1 hf
  obtain rfl := List.map_eq_nil_iff.1 hf
  simp only [Prod.mk.injEq] at h0 h1
  obtain ⟨n0, t0, o0⟩ := h0
  obtain ⟨n1, t1, o1⟩ := h1
  simp [Op.eqFields, n0, t0, o0, n1, t1, o1, go_sem]
  repeat' split
  all_goals simp_all

theorem eqlOfIv (a s : Int) (b t : Int) (W : World) : (binOp .eql 69 (.agg #[.int .i64 a, .int .i64 b]) (.agg #[.int .i64 s, .int .i64 t])).run Try.prog W = .ok (.bool ((a == s) && (b == t))) W := by
  rw [run_eql_struct, eqfOfIv]; rfl

/-- The result's box is as it began or as it ends. -/
def KeepR (w : World) (R : Nat) (t : TypeId) (x y : Value) (w' : World) : Prop := (Box w' R t #[.int .i64 0, .int .i64 0] ∨ Box w' R t #[x, y]) ∧ Below w.heap.size w w'
theorem KeepR.step {w w1 w2 : World} {R : Nat} {t : TypeId} {x y : Value} (h : KeepR w R t x y w1) (hb : Below w1.heap.size w1 w2) : KeepR w R t x y w2 :=
  ⟨h.1.imp (fun k => k.below hb k.lt) (fun k => k.below hb k.lt), h.2.trans (hb.mono h.2.size)⟩
theorem KeepR.put {w w1 : World} {R : Nat} {t : TypeId} {x y : Value} (h : KeepR w R t x y w1) (hR : w.heap.size ≤ R) : KeepR w R t x y ((w1.setCell ⟨R, 0, none⟩ x).setCell ⟨R, 1, none⟩ y) :=
  ⟨.inr (h.1.elim (fun k => (k.set 0 x).set 1 y) (fun k => (k.set 0 x).set 1 y)), (h.2.setCell (p := ⟨R, 0, none⟩) hR _).setCell (p := ⟨R, 1, none⟩) hR _⟩
theorem hold4r {p0 p1 p2 p3 K : Prop} (h : p0 ∧ p1 ∧ p2 ∧ p3 ∧ K) : K := h.2.2.2.2
/-- The operands' boxes beside it. -/
def KeepQ (w : World) (a0 a1 b0 b1 : Value) (t : TypeId) (x y : Value) (w' : World) : Prop := Box w' w.heap.size t #[a0, a1] ∧ Box w' (w.heap.size + 1) t #[b0, b1] ∧ KeepR w (w.heap.size + 2) t x y w'
theorem KeepQ.step {w w1 w2 : World} {a0 a1 b0 b1 x y : Value} {t : TypeId} (h : KeepQ w a0 a1 b0 b1 t x y w1) (hb : Below w1.heap.size w1 w2) : KeepQ w a0 a1 b0 b1 t x y w2 := ⟨h.1.below hb h.1.lt, h.2.1.below hb h.2.1.lt, h.2.2.step hb⟩
theorem KeepQ.put {w w1 : World} {a0 a1 b0 b1 x y : Value} {t : TypeId} (h : KeepQ w a0 a1 b0 b1 t x y w1) : KeepQ w a0 a1 b0 b1 t x y ((w1.setCell ⟨w.heap.size + 2, 0, none⟩ x).setCell ⟨w.heap.size + 2, 1, none⟩ y) :=
  ⟨(h.1.far (by omega) _ _).far (by omega) _ _, (h.2.1.far (by omega) _ _).far (by omega) _ _, h.2.2.put (by omega)⟩
theorem KeepQ.cells {w w' : World} {a0 a1 b0 b1 x y : Value} {t : TypeId} (h : KeepQ w a0 a1 b0 b1 t x y w') : w'.cell? ⟨w.heap.size, 0, none⟩ = some a0 ∧ w'.cell? ⟨w.heap.size, 1, none⟩ = some a1 ∧ w'.cell? ⟨w.heap.size + 1, 0, none⟩ = some b0 ∧ w'.cell? ⟨w.heap.size + 1, 1, none⟩ = some b1 ∧ KeepQ w a0 a1 b0 b1 t x y w' := ⟨h.1.cell 0, h.1.cell 1, h.2.1.cell 0, h.2.1.cell 1, h⟩

set_option maxRecDepth 100000 in
set_option maxHeartbeats 6400000 in
theorem implRop_any (o al ah bl bh : Int) (w : World) (h1 : IvOk (al, ah)) (h2 : IvOk (bl, bh)) (ho : 3 ≤ o ∧ o ≤ 10) :
    Calls Try.prog 71 #[.int .i64 o, .agg #[.int .i64 al, .int .i64 ah], .agg #[.int .i64 bl, .int .i64 bh]] w fun e w' => e = .returned (.agg #[.int .i64 (opR o al ah bl bh).1, .int .i64 (opR o al ah bl bh).2]) ∧ Below w.heap.size w w' := by
  obtain ⟨w3, hw3⟩ : ∃ w3, w3 = ((w.alloc (.cells #[.int .i64 al, .int .i64 ah] 69)).alloc (.cells #[.int .i64 bl, .int .i64 bh] 69)).alloc (.cells #[.int .i64 0, .int .i64 0] 69) := ⟨_, rfl⟩
  have hA : Box w3 w.heap.size 69 #[.int .i64 al, .int .i64 ah] := by rw [hw3]; exact ((Box.new w 69 #[.int .i64 al, .int .i64 ah]).alloc _).alloc _
  have hBx : Box w3 (w.heap.size + 1) 69 #[.int .i64 bl, .int .i64 bh] := by
    have := (Box.new (w.alloc (.cells #[.int .i64 al, .int .i64 ah] 69)) 69 #[.int .i64 bl, .int .i64 bh]).alloc (.cells #[.int .i64 0, .int .i64 0] 69)
    rw [World.size_alloc] at this
    rw [hw3]; exact this
  have hR : Box w3 (w.heap.size + 2) 69 #[.int .i64 0, .int .i64 0] := by
    have := Box.new ((w.alloc (.cells #[.int .i64 al, .int .i64 ah] 69)).alloc (.cells #[.int .i64 bl, .int .i64 bh] 69)) 69 #[.int .i64 0, .int .i64 0]
    rw [World.size_alloc, World.size_alloc] at this
    rw [hw3]; exact this
  have hB : Below w.heap.size w w3 := by rw [hw3]; exact (((Below.refl _ w).alloc (Nat.le_refl _) _).alloc (by simp) _).alloc (by simp; omega) _
  have CT : Hid (∀ p W, _) := Lib.hid fun p W => truth_any p W
  have IA := h1.at_
  have IB := h2.at_
  dsimp only at IA IB
  have CO : Hid (∀ (a b : Int), (0 ≤ a ∧ a ≤ 20) → (0 ≤ b ∧ b ≤ 20) → ∀ W, _) := Lib.hid fun a b ha hb W => implOp_any o a b W ho ha hb
  obtain ⟨a0, a1, af⟩ := hA.duo
  obtain ⟨b0, b1, bf⟩ := hBx.duo
  obtain ⟨r0, r1, rf⟩ := hR.duo
  have hc : o = 6 ∨ o = 4 ∨ o = 7 ∨ o = 10 ∨ o = 3 ∨ o = 5 ∨ o = 8 ∨ o = 9 := by omega
  clear ho h1 h2
  rcases hc with rfl | hc
  · have HE : Hid (opR 6 al ah bl bh = (tr (((al == bl) && (ah == bh)) && (al == ah)), tr (decide (al ≤ bh) && decide (bl ≤ ah)))) := Lib.hid rfl
    have he : ∀ W, _ := fun W => eqlOfIv al bl ah bh W
    clear CO IA IB
    rw [HE.out]
    cases hE : ((al == bl) && (ah == bh)) <;> cases hO : decide (al ≤ bh)
    all_goals
      (rw [hE] at he
       go_enter Try.func71, Try.ntmps71
       go_upto_region 1 with fail
       rw [← hw3]
       clear hw3
       go_wp2_with (go_at_call 103; refine (CT.out _ _).mono ?_; rintro e w' ⟨rfl, rfl⟩)
       simp only [Bool.true_and, Bool.false_and]
       refine bodyPost_ret (v := .agg #[_, _]) (by simp [results, Try.results71, go_sem, ((hR.set 0 _).set 1 _).cell 0, ((hR.set 0 _).set 1 _).cell 1]; done) rfl ⟨rfl, (hB.setCell (p := ⟨w.heap.size + 2, 0, none⟩) (by show w.heap.size ≤ w.heap.size + 2; omega) _).setCell (p := ⟨w.heap.size + 2, 1, none⟩) (by show w.heap.size ≤ w.heap.size + 2; omega) _⟩)
  · rcases hc with rfl | rfl | rfl | rfl | rfl | rfl | rfl
    · have HV : Hid (opR 4 al ah bl bh = (opV 4 al bh, opV 4 ah bl)) := Lib.hid rfl
      have CX := Lib.hid (CO.out al bh IA.1 IB.2)
      have CY := Lib.hid (CO.out ah bl IA.2 IB.1)
      rw [HV.out]
      generalize opV 4 al bh = x at CX ⊢
      generalize opV 4 ah bl = y at CY ⊢
      clear CO IA IB HV
      go_enter Try.func71, Try.ntmps71
      go_upto_region 6 with fail
      rw [← hw3]
      clear hw3
      have KQ0 : KeepQ w (.int .i64 al) (.int .i64 ah) (.int .i64 bl) (.int .i64 bh) 69 (.int .i64 x) (.int .i64 y) w3 := ⟨hA, hBx, .inl hR, hB⟩
      have HK0 := Lib.hid KQ0
      have hsz := Lib.hid hB.size
      clear KQ0 a0 a1 af b0 b1 bf hA hBx hB
      go_region_held3 (fun w' => w'.cell? ⟨w.heap.size, 0, none⟩ = some (.int .i64 al) ∧ w'.cell? ⟨w.heap.size, 1, none⟩ = some (.int .i64 ah) ∧ w'.cell? ⟨w.heap.size + 1, 0, none⟩ = some (.int .i64 bl) ∧ w'.cell? ⟨w.heap.size + 1, 1, none⟩ = some (.int .i64 bh) ∧ KeepQ w (.int .i64 al) (.int .i64 ah) (.int .i64 bl) (.int .i64 bh) 69 (.int .i64 x) (.int .i64 y) w')
        ((refine KeepQ.cells ?_; first | exact HK0.out.step (Below.refl _ w3).drew | exact hold4r (by assumption) | exact KeepQ.put (hold4r (by assumption))))
        (first
          | (go_at_call 104; with_reducible refine (CX.out _).mono ?_; rintro e w' ⟨rfl, rfl⟩)
          | (go_at_call 104; with_reducible refine (CY.out _).mono ?_; rintro e w' ⟨rfl, rfl⟩))
      have hk8 : KeepQ w (.int .i64 al) (.int .i64 ah) (.int .i64 bl) (.int .i64 bh) 69 (.int .i64 x) (.int .i64 y) _ := hold4r (by assumption)
      go_wp2_with fail
      have hF : Box _ (w.heap.size + 2) 69 #[.int .i64 x, .int .i64 y] := (hR.set 0 (.int .i64 x)).set 1 (.int .i64 y)
      have k0 := (hF.below (Below.refl _ _).drew hF.lt).cell 0
      have k1 := (hF.below (Below.refl _ _).drew hF.lt).cell 1
      exact bodyPost_ret (v := .agg #[.int .i64 x, .int .i64 y]) (by simp [results, Try.results71, go_sem, k0, k1]; done) rfl ⟨rfl, hk8.2.2.2⟩
    · have HV : Hid (opR 7 al ah bl bh = (opV 7 ah bl, opV 7 al bh)) := Lib.hid rfl
      have CX := Lib.hid (CO.out ah bl IA.2 IB.1)
      have CY := Lib.hid (CO.out al bh IA.1 IB.2)
      rw [HV.out]
      generalize opV 7 ah bl = x at CX ⊢
      generalize opV 7 al bh = y at CY ⊢
      clear CO IA IB HV
      go_enter Try.func71, Try.ntmps71
      go_upto_region 9 with fail
      rw [← hw3]
      clear hw3
      have KQ0 : KeepQ w (.int .i64 al) (.int .i64 ah) (.int .i64 bl) (.int .i64 bh) 69 (.int .i64 x) (.int .i64 y) w3 := ⟨hA, hBx, .inl hR, hB⟩
      have HK0 := Lib.hid KQ0
      have hsz := Lib.hid hB.size
      clear KQ0 a0 a1 af b0 b1 bf hA hBx hB
      go_region_held3 (fun w' => w'.cell? ⟨w.heap.size, 0, none⟩ = some (.int .i64 al) ∧ w'.cell? ⟨w.heap.size, 1, none⟩ = some (.int .i64 ah) ∧ w'.cell? ⟨w.heap.size + 1, 0, none⟩ = some (.int .i64 bl) ∧ w'.cell? ⟨w.heap.size + 1, 1, none⟩ = some (.int .i64 bh) ∧ KeepQ w (.int .i64 al) (.int .i64 ah) (.int .i64 bl) (.int .i64 bh) 69 (.int .i64 x) (.int .i64 y) w')
        ((refine KeepQ.cells ?_; first | exact HK0.out.step (Below.refl _ w3).drew | exact hold4r (by assumption) | exact KeepQ.put (hold4r (by assumption))))
        (first
          | (go_at_call 104; with_reducible refine (CX.out _).mono ?_; rintro e w' ⟨rfl, rfl⟩)
          | (go_at_call 104; with_reducible refine (CY.out _).mono ?_; rintro e w' ⟨rfl, rfl⟩))
      have hk8 : KeepQ w (.int .i64 al) (.int .i64 ah) (.int .i64 bl) (.int .i64 bh) 69 (.int .i64 x) (.int .i64 y) _ := hold4r (by assumption)
      go_wp2_with fail
      have hF : Box _ (w.heap.size + 2) 69 #[.int .i64 x, .int .i64 y] := (hR.set 0 (.int .i64 x)).set 1 (.int .i64 y)
      have k0 := (hF.below (Below.refl _ _).drew hF.lt).cell 0
      have k1 := (hF.below (Below.refl _ _).drew hF.lt).cell 1
      exact bodyPost_ret (v := .agg #[.int .i64 x, .int .i64 y]) (by simp [results, Try.results71, go_sem, k0, k1]; done) rfl ⟨rfl, hk8.2.2.2⟩
    · have HV : Hid (opR 10 al ah bl bh = (opV 10 ah bl, opV 10 al bh)) := Lib.hid rfl
      have CX := Lib.hid (CO.out ah bl IA.2 IB.1)
      have CY := Lib.hid (CO.out al bh IA.1 IB.2)
      rw [HV.out]
      generalize opV 10 ah bl = x at CX ⊢
      generalize opV 10 al bh = y at CY ⊢
      clear CO IA IB HV
      go_enter Try.func71, Try.ntmps71
      go_upto_region 9 with fail
      rw [← hw3]
      clear hw3
      have KQ0 : KeepQ w (.int .i64 al) (.int .i64 ah) (.int .i64 bl) (.int .i64 bh) 69 (.int .i64 x) (.int .i64 y) w3 := ⟨hA, hBx, .inl hR, hB⟩
      have HK0 := Lib.hid KQ0
      have hsz := Lib.hid hB.size
      clear KQ0 a0 a1 af b0 b1 bf hA hBx hB
      go_region_held3 (fun w' => w'.cell? ⟨w.heap.size, 0, none⟩ = some (.int .i64 al) ∧ w'.cell? ⟨w.heap.size, 1, none⟩ = some (.int .i64 ah) ∧ w'.cell? ⟨w.heap.size + 1, 0, none⟩ = some (.int .i64 bl) ∧ w'.cell? ⟨w.heap.size + 1, 1, none⟩ = some (.int .i64 bh) ∧ KeepQ w (.int .i64 al) (.int .i64 ah) (.int .i64 bl) (.int .i64 bh) 69 (.int .i64 x) (.int .i64 y) w')
        ((refine KeepQ.cells ?_; first | exact HK0.out.step (Below.refl _ w3).drew | exact hold4r (by assumption) | exact KeepQ.put (hold4r (by assumption))))
        (first
          | (go_at_call 104; with_reducible refine (CX.out _).mono ?_; rintro e w' ⟨rfl, rfl⟩)
          | (go_at_call 104; with_reducible refine (CY.out _).mono ?_; rintro e w' ⟨rfl, rfl⟩))
      have hk8 : KeepQ w (.int .i64 al) (.int .i64 ah) (.int .i64 bl) (.int .i64 bh) 69 (.int .i64 x) (.int .i64 y) _ := hold4r (by assumption)
      go_wp2_with fail
      have hF : Box _ (w.heap.size + 2) 69 #[.int .i64 x, .int .i64 y] := (hR.set 0 (.int .i64 x)).set 1 (.int .i64 y)
      have k0 := (hF.below (Below.refl _ _).drew hF.lt).cell 0
      have k1 := (hF.below (Below.refl _ _).drew hF.lt).cell 1
      exact bodyPost_ret (v := .agg #[.int .i64 x, .int .i64 y]) (by simp [results, Try.results71, go_sem, k0, k1]; done) rfl ⟨rfl, hk8.2.2.2⟩
    · have HV : Hid (opR 3 al ah bl bh = (opV 3 al bl, opV 3 ah bh)) := Lib.hid rfl
      have CX := Lib.hid (CO.out al bl IA.1 IB.1)
      have CY := Lib.hid (CO.out ah bh IA.2 IB.2)
      rw [HV.out]
      generalize opV 3 al bl = x at CX ⊢
      generalize opV 3 ah bh = y at CY ⊢
      clear CO IA IB HV
      go_enter Try.func71, Try.ntmps71
      go_upto_region 10 with fail
      rw [← hw3]
      clear hw3
      have KQ0 : KeepQ w (.int .i64 al) (.int .i64 ah) (.int .i64 bl) (.int .i64 bh) 69 (.int .i64 x) (.int .i64 y) w3 := ⟨hA, hBx, .inl hR, hB⟩
      have HK0 := Lib.hid KQ0
      have hsz := Lib.hid hB.size
      clear KQ0 a0 a1 af b0 b1 bf hA hBx hB
      go_region_held3 (fun w' => w'.cell? ⟨w.heap.size, 0, none⟩ = some (.int .i64 al) ∧ w'.cell? ⟨w.heap.size, 1, none⟩ = some (.int .i64 ah) ∧ w'.cell? ⟨w.heap.size + 1, 0, none⟩ = some (.int .i64 bl) ∧ w'.cell? ⟨w.heap.size + 1, 1, none⟩ = some (.int .i64 bh) ∧ KeepQ w (.int .i64 al) (.int .i64 ah) (.int .i64 bl) (.int .i64 bh) 69 (.int .i64 x) (.int .i64 y) w')
        ((refine KeepQ.cells ?_; first | exact HK0.out.step (Below.refl _ w3).drew | exact hold4r (by assumption) | exact KeepQ.put (hold4r (by assumption))))
        (first
          | (go_at_call 104; with_reducible refine (CX.out _).mono ?_; rintro e w' ⟨rfl, rfl⟩)
          | (go_at_call 104; with_reducible refine (CY.out _).mono ?_; rintro e w' ⟨rfl, rfl⟩))
      have hk8 : KeepQ w (.int .i64 al) (.int .i64 ah) (.int .i64 bl) (.int .i64 bh) 69 (.int .i64 x) (.int .i64 y) _ := hold4r (by assumption)
      go_wp2_with fail
      have hF : Box _ (w.heap.size + 2) 69 #[.int .i64 x, .int .i64 y] := (hR.set 0 (.int .i64 x)).set 1 (.int .i64 y)
      have k0 := (hF.below (Below.refl _ _).drew hF.lt).cell 0
      have k1 := (hF.below (Below.refl _ _).drew hF.lt).cell 1
      exact bodyPost_ret (v := .agg #[.int .i64 x, .int .i64 y]) (by simp [results, Try.results71, go_sem, k0, k1]; done) rfl ⟨rfl, hk8.2.2.2⟩
    · have HV : Hid (opR 5 al ah bl bh = (opV 5 al bl, opV 5 ah bh)) := Lib.hid rfl
      have CX := Lib.hid (CO.out al bl IA.1 IB.1)
      have CY := Lib.hid (CO.out ah bh IA.2 IB.2)
      rw [HV.out]
      generalize opV 5 al bl = x at CX ⊢
      generalize opV 5 ah bh = y at CY ⊢
      clear CO IA IB HV
      go_enter Try.func71, Try.ntmps71
      go_upto_region 10 with fail
      rw [← hw3]
      clear hw3
      have KQ0 : KeepQ w (.int .i64 al) (.int .i64 ah) (.int .i64 bl) (.int .i64 bh) 69 (.int .i64 x) (.int .i64 y) w3 := ⟨hA, hBx, .inl hR, hB⟩
      have HK0 := Lib.hid KQ0
      have hsz := Lib.hid hB.size
      clear KQ0 a0 a1 af b0 b1 bf hA hBx hB
      go_region_held3 (fun w' => w'.cell? ⟨w.heap.size, 0, none⟩ = some (.int .i64 al) ∧ w'.cell? ⟨w.heap.size, 1, none⟩ = some (.int .i64 ah) ∧ w'.cell? ⟨w.heap.size + 1, 0, none⟩ = some (.int .i64 bl) ∧ w'.cell? ⟨w.heap.size + 1, 1, none⟩ = some (.int .i64 bh) ∧ KeepQ w (.int .i64 al) (.int .i64 ah) (.int .i64 bl) (.int .i64 bh) 69 (.int .i64 x) (.int .i64 y) w')
        ((refine KeepQ.cells ?_; first | exact HK0.out.step (Below.refl _ w3).drew | exact hold4r (by assumption) | exact KeepQ.put (hold4r (by assumption))))
        (first
          | (go_at_call 104; with_reducible refine (CX.out _).mono ?_; rintro e w' ⟨rfl, rfl⟩)
          | (go_at_call 104; with_reducible refine (CY.out _).mono ?_; rintro e w' ⟨rfl, rfl⟩))
      have hk8 : KeepQ w (.int .i64 al) (.int .i64 ah) (.int .i64 bl) (.int .i64 bh) 69 (.int .i64 x) (.int .i64 y) _ := hold4r (by assumption)
      go_wp2_with fail
      have hF : Box _ (w.heap.size + 2) 69 #[.int .i64 x, .int .i64 y] := (hR.set 0 (.int .i64 x)).set 1 (.int .i64 y)
      have k0 := (hF.below (Below.refl _ _).drew hF.lt).cell 0
      have k1 := (hF.below (Below.refl _ _).drew hF.lt).cell 1
      exact bodyPost_ret (v := .agg #[.int .i64 x, .int .i64 y]) (by simp [results, Try.results71, go_sem, k0, k1]; done) rfl ⟨rfl, hk8.2.2.2⟩
    · have HV : Hid (opR 8 al ah bl bh = (opV 8 al bl, opV 8 ah bh)) := Lib.hid rfl
      have CX := Lib.hid (CO.out al bl IA.1 IB.1)
      have CY := Lib.hid (CO.out ah bh IA.2 IB.2)
      rw [HV.out]
      generalize opV 8 al bl = x at CX ⊢
      generalize opV 8 ah bh = y at CY ⊢
      clear CO IA IB HV
      go_enter Try.func71, Try.ntmps71
      go_upto_region 10 with fail
      rw [← hw3]
      clear hw3
      have KQ0 : KeepQ w (.int .i64 al) (.int .i64 ah) (.int .i64 bl) (.int .i64 bh) 69 (.int .i64 x) (.int .i64 y) w3 := ⟨hA, hBx, .inl hR, hB⟩
      have HK0 := Lib.hid KQ0
      have hsz := Lib.hid hB.size
      clear KQ0 a0 a1 af b0 b1 bf hA hBx hB
      go_region_held3 (fun w' => w'.cell? ⟨w.heap.size, 0, none⟩ = some (.int .i64 al) ∧ w'.cell? ⟨w.heap.size, 1, none⟩ = some (.int .i64 ah) ∧ w'.cell? ⟨w.heap.size + 1, 0, none⟩ = some (.int .i64 bl) ∧ w'.cell? ⟨w.heap.size + 1, 1, none⟩ = some (.int .i64 bh) ∧ KeepQ w (.int .i64 al) (.int .i64 ah) (.int .i64 bl) (.int .i64 bh) 69 (.int .i64 x) (.int .i64 y) w')
        ((refine KeepQ.cells ?_; first | exact HK0.out.step (Below.refl _ w3).drew | exact hold4r (by assumption) | exact KeepQ.put (hold4r (by assumption))))
        (first
          | (go_at_call 104; with_reducible refine (CX.out _).mono ?_; rintro e w' ⟨rfl, rfl⟩)
          | (go_at_call 104; with_reducible refine (CY.out _).mono ?_; rintro e w' ⟨rfl, rfl⟩))
      have hk8 : KeepQ w (.int .i64 al) (.int .i64 ah) (.int .i64 bl) (.int .i64 bh) 69 (.int .i64 x) (.int .i64 y) _ := hold4r (by assumption)
      go_wp2_with fail
      have hF : Box _ (w.heap.size + 2) 69 #[.int .i64 x, .int .i64 y] := (hR.set 0 (.int .i64 x)).set 1 (.int .i64 y)
      have k0 := (hF.below (Below.refl _ _).drew hF.lt).cell 0
      have k1 := (hF.below (Below.refl _ _).drew hF.lt).cell 1
      exact bodyPost_ret (v := .agg #[.int .i64 x, .int .i64 y]) (by simp [results, Try.results71, go_sem, k0, k1]; done) rfl ⟨rfl, hk8.2.2.2⟩
    · have HV : Hid (opR 9 al ah bl bh = (opV 9 al bl, opV 9 ah bh)) := Lib.hid rfl
      have CX := Lib.hid (CO.out al bl IA.1 IB.1)
      have CY := Lib.hid (CO.out ah bh IA.2 IB.2)
      rw [HV.out]
      generalize opV 9 al bl = x at CX ⊢
      generalize opV 9 ah bh = y at CY ⊢
      clear CO IA IB HV
      go_enter Try.func71, Try.ntmps71
      go_upto_region 10 with fail
      rw [← hw3]
      clear hw3
      have KQ0 : KeepQ w (.int .i64 al) (.int .i64 ah) (.int .i64 bl) (.int .i64 bh) 69 (.int .i64 x) (.int .i64 y) w3 := ⟨hA, hBx, .inl hR, hB⟩
      have HK0 := Lib.hid KQ0
      have hsz := Lib.hid hB.size
      clear KQ0 a0 a1 af b0 b1 bf hA hBx hB
      go_region_held3 (fun w' => w'.cell? ⟨w.heap.size, 0, none⟩ = some (.int .i64 al) ∧ w'.cell? ⟨w.heap.size, 1, none⟩ = some (.int .i64 ah) ∧ w'.cell? ⟨w.heap.size + 1, 0, none⟩ = some (.int .i64 bl) ∧ w'.cell? ⟨w.heap.size + 1, 1, none⟩ = some (.int .i64 bh) ∧ KeepQ w (.int .i64 al) (.int .i64 ah) (.int .i64 bl) (.int .i64 bh) 69 (.int .i64 x) (.int .i64 y) w')
        ((refine KeepQ.cells ?_; first | exact HK0.out.step (Below.refl _ w3).drew | exact hold4r (by assumption) | exact KeepQ.put (hold4r (by assumption))))
        (first
          | (go_at_call 104; with_reducible refine (CX.out _).mono ?_; rintro e w' ⟨rfl, rfl⟩)
          | (go_at_call 104; with_reducible refine (CY.out _).mono ?_; rintro e w' ⟨rfl, rfl⟩))
      have hk8 : KeepQ w (.int .i64 al) (.int .i64 ah) (.int .i64 bl) (.int .i64 bh) 69 (.int .i64 x) (.int .i64 y) _ := hold4r (by assumption)
      go_wp2_with fail
      have hF : Box _ (w.heap.size + 2) 69 #[.int .i64 x, .int .i64 y] := (hR.set 0 (.int .i64 x)).set 1 (.int .i64 y)
      have k0 := (hF.below (Below.refl _ _).drew hF.lt).cell 0
      have k1 := (hF.below (Below.refl _ _).drew hF.lt).cell 1
      exact bodyPost_ret (v := .agg #[.int .i64 x, .int .i64 y]) (by simp [results, Try.results71, go_sem, k0, k1]; done) rfl ⟨rfl, hk8.2.2.2⟩

end Go.Proofs.Ytdeilceakhgjlaa
