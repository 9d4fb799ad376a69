/-
  Several texts in one: SumS, SumI, SumJ, LawSum.
-/
import Derived.Test.YtlfghhmphgidjaaGreatDoorDraws
import Derived.Test.YtlfghhmphgidjaaGreatDoorImplSum
import Derived.Test.YtlfghhmphgidjaaGreatDoorSumQ
import Derived.Deep.RegionWith
/-
  The model's sum of a list of Rats.
-/
namespace Go.Proofs.YtlfghhmphgidjaaGreatDoor
open Go.RowKit Num

/-- A Rat's texts as a fraction. -/
def qOf (F : Nat → Bool × ByteArray × ByteArray) (j : Nat) : Bool × Nat × Nat := ((F j).1, numOf (F j).2.1, numOf (F j).2.2)

/-- The first k Rats are valid. -/
def ratsOk (F : Nat → Bool × ByteArray × ByteArray) : Nat → Bool
  | 0 => true
  | k + 1 => ratsOk F k && validR (F k).1 (F k).2.1 (F k).2.2

theorem ratsOk_up {F : Nat → Bool × ByteArray × ByteArray} {k n : Nat} (h : k ≤ n) (h0 : ratsOk F k = false) : ratsOk F n = false := by
  induction n with
  | zero => obtain rfl : k = 0 := by omega
            exact h0
  | succ n ih =>
    by_cases hk : k ≤ n
    · show (ratsOk F n && _) = false
      rw [ih hk]; rfl
    · obtain rfl : k = n + 1 := by omega
      exact h0

theorem ratsOk_at {F : Nat → Bool × ByteArray × ByteArray} {n j : Nat} (h : ratsOk F n = true) (hj : j < n) : validR (F j).1 (F j).2.1 (F j).2.2 = true := by
  cases hv : validR (F j).1 (F j).2.1 (F j).2.2 with
  | true => rfl
  | false =>
    have h1 : ratsOk F (j + 1) = false := by
      show (ratsOk F j && _) = false
      rw [hv, Bool.and_false]
    rw [ratsOk_up (show j + 1 ≤ n by omega) h1] at h
    cases h

theorem qOf_low {F : Nat → Bool × ByteArray × ByteArray} {j : Nat} (h : validR (F j).1 (F j).2.1 (F j).2.2 = true) : LowO (qOf F j) := by
  obtain ⟨_, _, _, h4⟩ := validR_num h
  have hg := validR_gcd h
  obtain ⟨_, _, h3, _⟩ := validR_num h
  refine ⟨by show 0 < numOf (F j).2.2; omega, hg, fun hs => ?_⟩
  show 0 < numOf (F j).2.1
  rcases Nat.eq_zero_or_pos (numOf (F j).2.1) with e | e
  · have := h4 e
    rw [show (F j).1 = true from hs] at this
    cases this
  · exact e

def capN : Nat := 10 ^ 120
theorem capN_WB : capN ≤ WB ^ 7 := pow120
theorem capN_dec : capN ≤ 10000 ^ 30 := by
  unfold capN
  exact Nat.le_of_eq (by rw [show (10000 : Nat) = 10 ^ 4 from rfl, ← Nat.pow_mul])
theorem capN_two : 2 ≤ capN := by unfold capN; decide

theorem qOf_cap {F : Nat → Bool × ByteArray × ByteArray} {j : Nat} (h : validR (F j).1 (F j).2.1 (F j).2.2 = true) : (qOf F j).2.1 ≤ capN ∧ (qOf F j).2.2 ≤ capN := by
  obtain ⟨h1, h2, _, _⟩ := validR_num h
  exact ⟨Nat.le_of_lt (numOf_lt h1), Nat.le_of_lt (numOf_lt h2)⟩

theorem sumQ_low {F : Nat → Bool × ByteArray × ByteArray} {n a k : Nat} (h : ratsOk F n = true) (hk : a + k ≤ n) : LowO (sumR (qOf F) a k) :=
  sumR_low fun j hj => qOf_low (ratsOk_at h (by omega))

/-- The sum of at most 1000 Rats is not too long. -/
theorem sumQ_ln {F : Nat → Bool × ByteArray × ByteArray} {n a k : Nat} (h : ratsOk F n = true) (hk : a + k ≤ n) (hn : k ≤ 1000) :
    (ln WB (sumR (qOf F) a k).2.1 ≤ 20000 ∧ ln WB (sumR (qOf F) a k).2.2 ≤ 20000) ∧ ln 10000 (sumR (qOf F) a k).2.1 ≤ 70000 ∧ ln 10000 (sumR (qOf F) a k).2.2 ≤ 70000 := by
  obtain ⟨h1, h2⟩ := sumR_fit capN_two (F := qOf F) (a := a) (k := k) fun j hj => qOf_cap (ratsOk_at h (by omega))
  have e1 := ln_of_pow WB_two capN_WB h1
  have e2 := ln_of_pow WB_two capN_WB h2
  have e3 := ln_of_pow (by omega : 2 ≤ 10000) capN_dec h1
  have e4 := ln_of_pow (by omega : 2 ≤ 10000) capN_dec h2
  exact ⟨⟨by omega, by omega⟩, by omega, by omega⟩

/-- What a sum of Rats is handed back as. -/
def sumRes (F : Nat → Bool × ByteArray × ByteArray) (n : Nat) : Value :=
  if (decide (n ≤ 1000) && ratsOk F n) = true then ratRes (sumR (qOf F) 0 n).1 (sumR (qOf F) 0 n).2.1 (sumR (qOf F) 0 n).2.2 else noRat

theorem num_lt_ten {s : ByteArray} (h : isNum s = true) : ln 10000 (numOf s) ≤ 70000 := by
  have := ln_of_pow (k := 1) (by omega : 2 ≤ 10000) capN_dec (by rw [Nat.pow_one]; exact Nat.le_of_lt (numOf_lt h))
  omega

end Go.Proofs.YtlfghhmphgidjaaGreatDoor
/-
  The program's sum of a list of fractions.
-/
namespace Go.Proofs.YtlfghhmphgidjaaGreatDoor
open Go.RowKit Num

/-- n fractions stand in a row from the address on. -/
def FracAt (w : World) (A : Option Addr) (n : Nat) (G : Nat → Bool × Nat × Nat) : Prop :=
  0 < n → ∃ b off, A = some ⟨b, off, none⟩ ∧ b < w.heap.size ∧ ∀ j, j < n → ∃ vn vd, w.cell? ⟨b, off + j * 3, none⟩ = some (.bool (G j).1) ∧ w.cell? ⟨b, off + j * 3 + 1, none⟩ = some vn ∧ w.cell? ⟨b, off + j * 3 + 2, none⟩ = some vd ∧
    Nums 143 .u64 WB w vn (G j).2.1 ∧ Nums 143 .u64 WB w vd (G j).2.2

theorem FracAt.below {B : Nat} {w w' : World} {A : Option Addr} {n : Nat} {G : Nat → Bool × Nat × Nat} (h : FracAt w A n G) (hb : Below B w w') (hB : w.heap.size ≤ B) : FracAt w' A n G := fun h0 => by
  obtain ⟨b, off, rfl, h1, h2⟩ := h h0
  refine ⟨b, off, rfl, Nat.lt_of_lt_of_le h1 hb.size, fun j hj => ?_⟩
  obtain ⟨vn, vd, c0, c1, c2, g1, g2⟩ := h2 j hj
  have hlt : b < B := Nat.lt_of_lt_of_le h1 hB
  exact ⟨vn, vd, (hb.cell (p := ⟨b, off + j * 3, none⟩) hlt).trans c0, (hb.cell (p := ⟨b, off + j * 3 + 1, none⟩) hlt).trans c1, (hb.cell (p := ⟨b, off + j * 3 + 2, none⟩) hlt).trans c2, g1.below hb hB, g2.below hb hB⟩

theorem FracAt.left {w : World} {A : Option Addr} {n h : Nat} {G : Nat → Bool × Nat × Nat} (k : FracAt w A n G) (hh : h ≤ n) : FracAt w A h G := fun h0 => by
  obtain ⟨b, off, rfl, h1, h2⟩ := k (by omega)
  exact ⟨b, off, rfl, h1, fun j hj => h2 j (by omega)⟩

theorem FracAt.right {w : World} {b off n h : Nat} {G : Nat → Bool × Nat × Nat} (k : FracAt w (some ⟨b, off, none⟩) n G) : FracAt w (some ⟨b, off + h * 3, none⟩) (n - h) (fun j => G (h + j)) := fun h0 => by
  obtain ⟨b', off', he, h1, h2⟩ := k (by omega)
  injection he with he
  injection he with e1 e2 _
  subst e1 e2
  refine ⟨b, off + h * 3, rfl, h1, fun j hj => ?_⟩
  obtain ⟨vn, vd, c0, c1, c2, g1, g2⟩ := h2 (h + j) (by omega)
  have e : off + (h + j) * 3 = off + h * 3 + j * 3 := by omega
  rw [e] at c0 c1 c2
  exact ⟨vn, vd, c0, c1, c2, g1, g2⟩

/-- Fractions in lowest terms, none of whose parts is too long (fifteen words: products of two parts of Rats, too). -/
def FitF (G : Nat → Bool × Nat × Nat) (a n : Nat) : Prop := ∀ j, j < n → LowO (G (a + j)) ∧ (G (a + j)).2.1 ≤ WB ^ 15 ∧ (G (a + j)).2.2 ≤ WB ^ 15

theorem capB_two : 2 ≤ WB ^ 15 := Nat.le_trans WB_two (Nat.le_self_pow (by decide) WB)
theorem capN_B : capN ≤ WB ^ 15 := Nat.le_trans capN_WB (Nat.pow_le_pow_right (Nat.le_trans (by decide) WB_two) (by decide))

theorem fit_ln {G : Nat → Bool × Nat × Nat} {a n : Nat} (h : FitF G a n) (hn : n ≤ 1000) : LowO (sumR G a n) ∧ ln WB (sumR G a n).2.1 ≤ 40000 ∧ ln WB (sumR G a n).2.2 ≤ 40000 := by
  obtain ⟨h1, h2⟩ := sumR_fit capB_two (F := G) (a := a) (k := n) fun j hj => (h j hj).2
  have e1 := ln_of_pow WB_two (Nat.le_refl (WB ^ 15)) h1
  have e2 := ln_of_pow WB_two (Nat.le_refl (WB ^ 15)) h2
  exact ⟨sumR_low fun j hj => (h j hj).1, by omega, by omega⟩

theorem fact_below {B Q : Nat} {w w' : World} {t : TypeId} (h : Below B w w' ∧ Boxy w' Q t) : Below B w w' := h.1
theorem fact_boxy {B Q : Nat} {w w' : World} {t : TypeId} (h : Below B w w' ∧ Boxy w' Q t) : Boxy w' Q t := h.2
theorem fact_step {B Q : Nat} {w w1 w2 : World} {t : TypeId} (hB : B ≤ w1.heap.size) (h : Below B w w1 ∧ Boxy w1 Q t) (k : Below w1.heap.size w1 w2) : Below B w w2 ∧ Boxy w2 Q t :=
  ⟨h.1.trans (k.mono hB), h.2.below k⟩

theorem Tryz.elemF : Tryz.prog.elem 81 = 85 := by kernel_rfl
theorem Tryz.underF : Tryz.prog.underlying 81 = some (.slice (Tryz.prog.elem 81)) := by kernel_rfl
theorem sliceF_h (b off n cap h : Nat) (W : World) (h0 : 0 < cap) (hh : h ≤ cap) : (Instr.slice 81 (.slice (some ⟨b, off, none⟩) n cap) none (some (.int .i64 (h : Int))) none).run Tryz.prog W = .ok (.slice (some ⟨b, off, none⟩) h cap) W := by
  rw [run_slice_h (P := Tryz.prog) (w := W) 81 _ n cap Tryz.underF .i64 (h : Int) (by omega) (by omega)]
  rw [Tryz.elemF, Tryz.sizeOf85]
  simp only [Result.andThen_ok, sliced, Int.toNat_natCast]
  rw [if_neg (by omega)]
  simp [Addr.add]
theorem sliceF_l (b off n cap h : Nat) (W : World) (h0 : h < cap) (hh : h ≤ n) : (Instr.slice 81 (.slice (some ⟨b, off, none⟩) n cap) (some (.int .i64 (h : Int))) none none).run Tryz.prog W = .ok (.slice (some ⟨b, off + h * 3, none⟩) (n - h) (cap - h)) W := by
  rw [run_slice_l (P := Tryz.prog) (w := W) 81 _ n cap Tryz.underF .i64 (h : Int) (by omega) (by omega)]
  rw [Tryz.elemF, Tryz.sizeOf85]
  simp only [Result.andThen_ok, sliced, Int.toNat_natCast]
  rw [if_neg (by omega)]
  simp [Addr.add]
  try omega

set_option maxRecDepth 100000 in
set_option maxHeartbeats 1600000 in
theorem sumF_none (A0 : Option Addr) (cap : Nat) (w : World) :
    Calls Tryz.prog 121 #[.slice A0 0 cap] w fun e w' => (∃ v, e = .returned v ∧ IsF w' v false 0 1) ∧ Below w.heap.size w w' := by
  have e0 : ∀ (W : World) (o : Obj), (W.alloc o).heap.size = W.heap.size + 1 := fun W o => by simp
  have hN := Box.new (w.alloc (.cells #[.bool false, .slice none 0 0, .slice (some ⟨w.heap.size + 1, 0, none⟩) 1 1] 85)) 143 #[.int .u64 1]
  have hF := (Box.new w 85 #[.bool false, .slice none 0 0, .slice (some ⟨w.heap.size + 1, 0, none⟩) 1 1]).alloc (.cells #[.int .u64 1] 143)
  have hB := ((Below.refl w.heap.size w).alloc (Nat.le_refl _) (.cells #[.bool false, .slice none 0 0, .slice (some ⟨w.heap.size + 1, 0, none⟩) 1 1] 85)).alloc (by simp) (.cells #[.int .u64 1] 143)
  rw [e0] at hN
  obtain ⟨m0, m1, m2, _, _, _⟩ := hF.three
  have HN := Lib.hid hN
  have HB := Lib.hid hB
  clear hN hB e0
  go_enter Tryz.func121, Tryz.ntmps121
  go_wp2_with fail
  exact bodyPost_ret (v := .agg #[.bool false, .slice none 0 0, .slice (some ⟨w.heap.size + 1, 0, none⟩) 1 1]) (by simp [results, Tryz.results121, go_sem, m0, m1, m2]; done) rfl ⟨⟨_, rfl, _, _, rfl, nums_nil _, nums_new HN.out⟩, HB.out⟩

set_option maxRecDepth 100000 in
set_option maxHeartbeats 1600000 in
theorem sumF_one (b off cap : Nat) (sg : Bool) (vn vd : Value) (N D : Nat) (w : World) (hb : b < w.heap.size) (c0 : w.cell? ⟨b, off, none⟩ = some (.bool sg)) (c1 : w.cell? ⟨b, off + 1, none⟩ = some vn) (c2 : w.cell? ⟨b, off + 2, none⟩ = some vd)
    (hn : Nums 143 .u64 WB w vn N) (hd : Nums 143 .u64 WB w vd D) :
    Calls Tryz.prog 121 #[.slice (some ⟨b, off, none⟩) 1 cap] w fun e w' => (∃ v, e = .returned v ∧ IsF w' v sg N D) ∧ Below w.heap.size w w' := by
  obtain ⟨A1, k1, rfl, _, _, _⟩ := RowF.open hn
  obtain ⟨A2, k2, rfl, _, _, _⟩ := RowF.open hd
  have hB := (Below.refl w.heap.size w).alloc (Nat.le_refl _) (.cells #[.bool false, .slice none 0 0, .slice none 0 0] 85)
  have d0 := (hB.cell (p := ⟨b, off, none⟩) hb).trans c0
  have d1 := (hB.cell (p := ⟨b, off + 1, none⟩) hb).trans c1
  have d2 := (hB.cell (p := ⟨b, off + 2, none⟩) hb).trans c2
  have hF := Box.new w 85 #[.bool sg, .slice A1 (ln WB N) k1, .slice A2 (ln WB D) k2]
  have hB' := (Below.refl w.heap.size w).alloc (Nat.le_refl _) (.cells #[.bool sg, .slice A1 (ln WB N) k1, .slice A2 (ln WB D) k2] 85)
  replace hn := hn.below hB' (Nat.le_refl _)
  replace hd := hd.below hB' (Nat.le_refl _)
  obtain ⟨m0, m1, m2, _, _, _⟩ := hF.three
  have HN := Lib.hid hn
  have HD := Lib.hid hd
  have HB := Lib.hid hB'
  clear hn hd hB hB' c0 c1 c2
  go_enter Tryz.func121, Tryz.ntmps121
  go_wp2_with fail
  exact bodyPost_ret (v := .agg #[.bool sg, .slice A1 (ln WB N) k1, .slice A2 (ln WB D) k2]) (by simp [results, Tryz.results121, go_sem, m0, m1, m2]; done) rfl ⟨⟨_, rfl, _, _, rfl, HN.out, HD.out⟩, HB.out⟩

set_option maxRecDepth 100000 in
set_option maxHeartbeats 1600000 in
theorem sumF_step (G : Nat → Bool × Nat × Nat) (a n cap b off : Nat) (w : World) (h2 : 2 ≤ n) (hn : n ≤ 1000) (hc : n ≤ cap) (hc2 : cap ≤ 9223372036854775807) (hA : FracAt w (some ⟨b, off, none⟩) n (fun j => G (a + j))) (hf : FitF G a n) (hT : Tab64 w)
    (ih : ∀ m, m < n → ∀ (a cap : Nat) (A0 : Option Addr) (w : World), m ≤ cap → cap ≤ 9223372036854775807 → FracAt w A0 m (fun j => G (a + j)) → FitF G a m → Tab64 w → Calls Tryz.prog 121 #[.slice A0 m cap] w fun e w' => (∃ v, e = .returned v ∧ IsF w' v (sumR G a m).1 (sumR G a m).2.1 (sumR G a m).2.2) ∧ Below w.heap.size w w') :
    Calls Tryz.prog 121 #[.slice (some ⟨b, off, none⟩) n cap] w fun e w' => (∃ v, e = .returned v ∧ IsF w' v (sumR G a n).1 (sumR G a n).2.1 (sumR G a n).2.2) ∧ Below w.heap.size w w' := by
  have e0 : ((n : Int) == 0) = false := by simp; omega
  have e1 : ((n : Int) == 1) = false := by simp; omega
  obtain ⟨h, hh⟩ : ∃ h, h = n / 2 := ⟨_, rfl⟩
  have HQ := Lib.hid (show (n : Int) / 2 = (h : Int) by omega)
  have hq : IntKind.i64.wrap ((n : Int) / 2) = (h : Int) := by rw [IntWalk.i64_in _ (by omega)]; omega
  have hq' : IntKind.i64.wrap ((n : Int).tdiv 2) = (h : Int) := by rw [Int.tdiv_eq_ediv_of_nonneg (by omega)]; exact hq
  have f1 : FitF G a h := fun j hj => hf j (by omega)
  have f2 : FitF G (a + h) (n - h) := fun j hj => by rw [Nat.add_assoc]; exact hf (h + j) (by omega)
  have C1 : Hid (∀ W, Below w.heap.size w W → _) := Lib.hid fun W hW => ih h (by omega) a cap (some ⟨b, off, none⟩) W (by omega) hc2 ((hA.below hW (Nat.le_refl _)).left (by omega)) f1 (hT.below hW)
  have C2 : Hid (∀ W, Below w.heap.size w W → _) := Lib.hid fun W hW => ih (n - h) (by omega) (a + h) (cap - h) (some ⟨b, off + h * 3, none⟩) W (by omega) (by omega) (by have := ((hA.below hW (Nat.le_refl _)).right (h := h)); simpa only [Nat.add_assoc] using this) f2 (hT.below hW)
  obtain ⟨l1, m1, m2⟩ := fit_ln f1 (by omega)
  obtain ⟨l2, m3, m4⟩ := fit_ln f2 (by omega)
  have hsp := sumR_split (F := G) (a := a) h (n - h) fun j hj => (hf j (by omega)).1
  rw [show h + (n - h) = n by omega] at hsp
  obtain ⟨⟨s1, N1, D1⟩, h1⟩ : ∃ o, o = sumR G a h := ⟨_, rfl⟩
  obtain ⟨⟨s2, N2, D2⟩, h2'⟩ : ∃ o, o = sumR G (a + h) (n - h) := ⟨_, rfl⟩
  obtain ⟨⟨s3, N3, D3⟩, h3'⟩ : ∃ o, o = sumR G a n := ⟨_, rfl⟩
  rw [← h1] at C1 l1 m1 m2 hsp
  rw [← h2'] at C2 l2 m3 m4 hsp
  rw [← h3'] at hsp ⊢
  simp only at C1 C2 l1 m1 m2 l2 m3 m4 hsp ⊢
  have C3 : Hid (∀ (u1 u2 u3 u4 : Value) W, Below w.heap.size w W → Nums 143 .u64 WB W u1 N1 → Nums 143 .u64 WB W u2 D1 → Nums 143 .u64 WB W u3 N2 → Nums 143 .u64 WB W u4 D2 → _) :=
    Lib.hid fun u1 u2 u3 u4 W hW g1 g2 g3 g4 => addF_any s1 s2 u1 u2 u3 u4 N1 D1 N2 D2 W g1 g2 g3 g4 (hT.below hW) (by omega) (by omega) (by omega) (by omega) l1.pos l2.pos l1.gcd l2.gcd
      (fun e => by cases hs : s1 with
        | false => rfl
        | true => have := l1.sign hs; simp only at this; omega)
      (fun e => by cases hs : s2 with
        | false => rfl
        | true => have := l2.sign hs; simp only at this; omega) s3 N3 D3 hsp
  have hR := Box.new w 85 #[.bool false, .slice none 0 0, .slice none 0 0]
  have hB := (Below.refl w.heap.size w).alloc (Nat.le_refl _) (.cells #[.bool false, .slice none 0 0, .slice none 0 0] 85)
  obtain ⟨W1, hW1⟩ : ∃ W1, W1 = w.alloc (.cells #[.bool false, .slice none 0 0, .slice none 0 0] 85) := ⟨_, rfl⟩
  have S1 := fun W => sliceF_h b off n cap h W (by omega) (by omega)
  have S2 := fun W => sliceF_l b off n cap h W (by omega) (by omega)
  have hcz : ¬ cap = 0 := by omega
  have hch : ¬ cap = h := by omega
  have hh2 : h ≤ n := by omega
  have i1 : (0 : Int) ≤ (h : Int) := by omega
  have i2 : (h : Int) ≤ (n : Int) := by omega
  have i3 : (h : Int) ≤ (cap : Int) := by omega
  have i4 : (n : Int) ≤ (cap : Int) := by omega
  have hhc : h ≤ cap := by omega
  have HH := Lib.hid hh
  clear hh
  clear ih hA hf f1 f2 l1 l2 m1 m2 m3 m4 hsp h1 h2' h3' hT
  go_enter Tryz.func121, Tryz.ntmps121
  go_upto_region 7 with fail
  rw [← hW1] at hR hB ⊢
  clear hW1
  have hsz := hB.size
  have hq0 : Below w.heap.size w W1 ∧ Boxy W1 w.heap.size 85 := ⟨hB, _, _, _, hR⟩
  go_region_held3 (fun w' => Below w.heap.size w w' ∧ Boxy w' w.heap.size 85)
    ((first | exact hq0 | exact ⟨hB.drew, hq0.2.below (Below.refl _ W1).drew⟩ | (refine fact_step (fact_below (by assumption)).size (by assumption) ?_; assumption) | exact ⟨below_put3 (fact_below (by assumption)) (Nat.le_refl _) _ _ _, Boxy.put (fact_boxy (by assumption)) _ _ _⟩))
    (first
      | (go_at_call_of 121 (Value.slice (some ⟨b, off, none⟩) h cap); refine (C1.out _ (fact_below (by assumption))).mono ?_; rintro e w3 ⟨⟨v, rfl, vn1, vd1, rfl, hn1, hd1⟩, hb3⟩; have Hn1 := Lib.hid hn1; have Hd1 := Lib.hid hd1; clear hn1 hd1)
      | (go_at_call_of 121 (Value.slice (some ⟨b, off + h * 3, none⟩) (n - h) (cap - h)); refine (C2.out _ (fact_below (by assumption))).mono ?_; rintro e w4 ⟨⟨v, rfl, vn2, vd2, rfl, hn2, hd2⟩, hb4⟩; have Hn1' := Lib.hid (Hn1.out.below hb4 (Nat.le_refl _)); have Hd1' := Lib.hid (Hd1.out.below hb4 (Nat.le_refl _)); have Hn2 := Lib.hid hn2; have Hd2 := Lib.hid hd2; clear hn2 hd2)
      | (go_at_call 90; refine (C3.out vn1 vd1 vn2 vd2 _ (fact_below (by assumption)) Hn1'.out Hd1'.out Hn2.out Hd2.out).mono ?_; rintro e w5 ⟨⟨v, rfl, vN, vD, rfl, hN, hDD⟩, hb5⟩; obtain ⟨q0, q1, q2, hz⟩ := Boxy.below (fact_boxy (by assumption)) hb5; obtain ⟨z0, z1, z2, f0, f1, f2⟩ := hz.three; obtain ⟨A7, c7, rfl, _, _, _⟩ := RowF.open hN; obtain ⟨A8, c8, rfl, _, _, _⟩ := RowF.open hDD))
  all_goals go_wp2_with fail
  all_goals obtain ⟨m0, m1, m2⟩ := hz.put3 (.bool s3) (.slice A7 (ln WB N3) c7) (.slice A8 (ln WB D3) c8)
  all_goals refine bodyPost_ret (v := .agg #[.bool s3, .slice A7 (ln WB N3) c7, .slice A8 (ln WB D3) c8]) (by simp [results, Tryz.results121, go_sem, m0, m1, m2]; done) rfl ⟨⟨_, rfl, _, _, rfl, Nums.put3 hN hz (by decide) _ _ _, Nums.put3 hDD hz (by decide) _ _ _⟩, fact_below (by assumption)⟩

theorem sumF_any (G : Nat → Bool × Nat × Nat) (n : Nat) (hn : n ≤ 1000) : ∀ (a cap : Nat) (A0 : Option Addr) (w : World), n ≤ cap → cap ≤ 9223372036854775807 → FracAt w A0 n (fun j => G (a + j)) → FitF G a n → Tab64 w →
    Calls Tryz.prog 121 #[.slice A0 n cap] w fun e w' => (∃ v, e = .returned v ∧ IsF w' v (sumR G a n).1 (sumR G a n).2.1 (sumR G a n).2.2) ∧ Below w.heap.size w w' := by
  induction n using Nat.strongRecOn with
  | _ n ih =>
    intro a cap A0 w hc hc2 hA hf hT
    match n, hn, ih, hc, hA, hf with
    | 0, _, _, _, _, _ => exact sumF_none A0 cap w
    | 1, _, _, _, hA, hf =>
      obtain ⟨b, off, rfl, hb, h1⟩ := hA Nat.one_pos
      obtain ⟨vn, vd, c0, c1, c2, g1, g2⟩ := h1 0 Nat.one_pos
      rw [sumR_one (show LowO (G a) from (hf 0 Nat.one_pos).1)]
      exact sumF_one b off cap _ vn vd _ _ w hb c0 c1 c2 g1 g2
    | m + 2, hn, ih, hc, hA, hf =>
      obtain ⟨b, off, rfl, hb, h1⟩ := hA (by omega)
      exact sumF_step G a (m + 2) cap b off w (by omega) hn hc hc2 hA hf hT fun k hk => ih k hk (by omega)

end Go.Proofs.YtlfghhmphgidjaaGreatDoor
/-
  The program's SumRats.
-/
namespace Go.Proofs.YtlfghhmphgidjaaGreatDoor
open Go.RowKit Num

theorem Tryz.infoFrac : (Tryz.prog.info? 85).map (fun i => (i.zero, i.size, i.bytes)) = some (some (.agg #[.bool false, .slice none 0 0, .slice none 0 0]), 3, 56) := by kernel_rfl

theorem mk_frac (n : Nat) (hn : n ≤ 1000) (w : World) :
    (Instr.makeSlice 81 (.int .i64 (n : Int)) (.int .i64 (n : Int))).run Tryz.prog w = .ok (.slice (some ⟨w.heap.size, 0, none⟩) n n) (w.alloc (.cells (madeCells #[.bool false, .slice none 0 0, .slice none 0 0] (n * 3)) 85)) := by
  obtain ⟨i, hi, hzz⟩ := Option.map_eq_some_iff.1 Tryz.infoFrac
  simp only [Prod.mk.injEq] at hzz
  obtain ⟨hz, hs, hb⟩ := hzz
  have hr := run_make (P := Tryz.prog) w 81 85 i _ Tryz.underlying81 hi hz .i64 .i64 n n (by omega) (Int.le_refl _) (by rw [hb]; omega) (by omega)
  simp only [Int.toNat_natCast, hs, Value.cells] at hr
  exact hr

/-- The first k places of the cells hold fractions. -/
def FilledF (w : World) (cs : Array Value) (G : Nat → Bool × Nat × Nat) (k : Nat) : Prop := ∀ j, j < k → ∃ vn vd, cs[j * 3]? = some (.bool (G j).1) ∧ cs[j * 3 + 1]? = some vn ∧ cs[j * 3 + 2]? = some vd ∧ Nums 143 .u64 WB w vn (G j).2.1 ∧ Nums 143 .u64 WB w vd (G j).2.2

theorem FilledF.below {w w' : World} {cs : Array Value} {G : Nat → Bool × Nat × Nat} {k : Nat} (h : FilledF w cs G k) (hb : Below w.heap.size w w') : FilledF w' cs G k := fun j hj => by
  obtain ⟨vn, vd, c0, c1, c2, g1, g2⟩ := h j hj
  exact ⟨vn, vd, c0, c1, c2, g1.below hb (Nat.le_refl _), g2.below hb (Nat.le_refl _)⟩

theorem FilledF.set {w : World} {g i : Nat} {u : Value} {t : TypeId} {cs cs' : Array Value} {G : Nat → Bool × Nat × Nat} {k : Nat} (h : FilledF w cs G k) (hx : Box w g t cs') (hne : 143 ≠ t) : FilledF (w.setCell ⟨g, i, none⟩ u) cs G k := fun j hj => by
  obtain ⟨vn, vd, c0, c1, c2, g1, g2⟩ := h j hj
  exact ⟨vn, vd, c0, c1, c2, g1.setCell (p := ⟨g, i, none⟩) (g1.apart hx hne) u, g2.setCell (p := ⟨g, i, none⟩) (g2.apart hx hne) u⟩

theorem FilledF.more {w : World} {cs : Array Value} {G : Nat → Bool × Nat × Nat} {k n : Nat} {vn vd : Value} (h : FilledF w cs G k) (hcs : cs.size = n * 3) (hk : k < n) (hn : Nums 143 .u64 WB w vn (G k).2.1) (hd : Nums 143 .u64 WB w vd (G k).2.2) :
    FilledF w (((cs.setIfInBounds (k * 3) (.bool (G k).1)).setIfInBounds (k * 3 + 1) vn).setIfInBounds (k * 3 + 2) vd) G (k + 1) := by
  intro j hj
  simp only [Array.getElem?_setIfInBounds, Array.size_setIfInBounds]
  by_cases hjk : j < k
  · obtain ⟨un, ud, c0, c1, c2, g1, g2⟩ := h j hjk
    refine ⟨un, ud, ?_, ?_, ?_, g1, g2⟩
    · rw [if_neg (by omega), if_neg (by omega), if_neg (by omega)]; exact c0
    · rw [if_neg (by omega), if_neg (by omega), if_neg (by omega)]; exact c1
    · rw [if_neg (by omega), if_neg (by omega), if_neg (by omega)]; exact c2
  · obtain rfl : j = k := by omega
    refine ⟨vn, vd, ?_, ?_, ?_, hn, hd⟩
    · rw [if_neg (by omega), if_neg (by omega), if_pos (by omega), if_pos (by omega)]
    · rw [if_neg (by omega), if_pos (by omega), if_pos (by omega)]
    · rw [if_pos (by omega), if_pos (by omega)]

theorem FilledF.at_ {w : World} {g : Nat} {cs : Array Value} {G : Nat → Bool × Nat × Nat} {n : Nat} (h : FilledF w cs G n) (hx : Box w g 85 cs) : FracAt w (some ⟨g, 0, none⟩) n G := fun _ => by
  refine ⟨g, 0, rfl, hx.lt, fun j hj => ?_⟩
  obtain ⟨vn, vd, c0, c1, c2, g1, g2⟩ := h j hj
  refine ⟨vn, vd, ?_, ?_, ?_, g1, g2⟩
  · rw [hx.cell, Nat.zero_add]; exact c0
  · rw [hx.cell, Nat.zero_add]; exact c1
  · rw [hx.cell, Nat.zero_add]; exact c2

theorem qOf_fit {F : Nat → Bool × ByteArray × ByteArray} {n : Nat} (h : ratsOk F n = true) : FitF (qOf F) 0 n := fun j hj => by
  rw [Nat.zero_add]
  exact ⟨qOf_low (ratsOk_at h hj), Nat.le_trans (qOf_cap (ratsOk_at h hj)).1 capN_B, Nat.le_trans (qOf_cap (ratsOk_at h hj)).2 capN_B⟩

end Go.Proofs.YtlfghhmphgidjaaGreatDoor
/-
  The law on SumRats.
-/
namespace Go.Proofs.YtlfghhmphgidjaaGreatDoor
open Go.RowKit Num

theorem sumRes_shape (F : Nat → Bool × ByteArray × ByteArray) (n : Nat) : ∃ rb rx ry rc, sumRes F n = .tuple #[.agg #[.bool rb, .string rx, .string ry], .bool rc] := by
  unfold sumRes
  split
  · exact ratRes_shape _ _ _
  · exact ⟨false, ⟨#[]⟩, ⟨#[]⟩, false, rfl⟩

end Go.Proofs.YtlfghhmphgidjaaGreatDoor
