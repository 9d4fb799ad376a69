/-
  Several texts in one: Apply, ApplyA, ApplyB.
-/
import Derived.Test.YtbcckgofoknmbaaDoorLead
import Derived.Test.YtbcckgofoknmbaaDoorPMul
import Derived.Test.YtbcckgofoknmbaaDoorPDiv
/-
  The program's steps of Lehmer's algorithm, applied to two rows of words in place.
-/
namespace Go.Proofs.YtbcckgofoknmbaaDoor
open Go.RowKit Num

theorem take_put (xs : List Nat) (k d : Nat) (hk : k < xs.length) : val WB ((xs.set k d).take (k + 1)) = val WB (xs.take k) + WB ^ k * d := by
  rw [val_take_succ WB _ k (by rw [List.length_set]; exact hk), List.getElem_set_self, List.take_set_of_le (Nat.le_refl k)]

theorem mod_fit {v A p q P : Nat} (hv : v < P) (hA : A < P) (h : v + p * P = A + q * P) : v = A := by
  have h1 : (v + p * P) % P = (A + q * P) % P := by rw [h]
  rw [Nat.add_mul_mod_self_right, Nat.add_mul_mod_self_right, Nat.mod_eq_of_lt hv, Nat.mod_eq_of_lt hA] at h1
  exact h1

/-- What the two rows and the carries are behind the first k words. -/
structure ApplyAt (n X Y U0 V0 U1 V1 : Nat) (xs ys az bz : List Nat) (k pc qc rc sc ab bb : Nat) : Prop where
  la : az.length = n
  lb : bz.length = n
  da : Dig WB az
  db : Dig WB bz
  ka : ∀ j, k ≤ j → az.getD j 0 = xs.getD j 0
  kb : ∀ j, k ≤ j → bz.getD j 0 = ys.getD j 0
  hp : pc < WB
  hq : qc < WB
  hr : rc < WB
  hs : sc < WB
  ha : ab ≤ 1
  hb : bb ≤ 1
  e1 : val WB (az.take k) + V0 * (Y % WB ^ k) + pc * WB ^ k = U0 * (X % WB ^ k) + (qc + ab) * WB ^ k
  e2 : val WB (bz.take k) + U1 * (X % WB ^ k) + rc * WB ^ k = V1 * (Y % WB ^ k) + (sc + bb) * WB ^ k

/-- One word more. -/
theorem ApplyAt.next {n X Y U0 V0 U1 V1 : Nat} {xs ys az bz : List Nat} {k pc qc rc sc ab bb x y p1 q1 p2 q2 pc' qc' rc' sc' d1 d2 ab' bb' : Nat} (h : ApplyAt n X Y U0 V0 U1 V1 xs ys az bz k pc qc rc sc ab bb) (hk : k < n)
    (hx : x = dg WB X k) (hy : y = dg WB Y k) (h1 : x * U0 + pc = p1 + pc' * WB) (h2 : y * V0 + qc = q1 + qc' * WB) (h3 : d1 + q1 + ab = p1 + ab' * WB)
    (h4 : y * V1 + rc = p2 + rc' * WB) (h5 : x * U1 + sc = q2 + sc' * WB) (h6 : d2 + q2 + bb = p2 + bb' * WB)
    (b1 : pc' < WB) (b2 : qc' < WB) (b3 : rc' < WB) (b4 : sc' < WB) (b5 : ab' ≤ 1) (b6 : bb' ≤ 1) (b7 : d1 < WB) (b8 : d2 < WB) :
    ApplyAt n X Y U0 V0 U1 V1 xs ys (az.set k d1) (bz.set k d2) (k + 1) pc' qc' rc' sc' ab' bb' where
  la := by rw [List.length_set]; exact h.la
  lb := by rw [List.length_set]; exact h.lb
  da := h.da.put _ b7
  db := h.db.put _ b8
  ka := fun j hj => by rw [getD_put_ne _ _ _ _ (by omega)]; exact h.ka j (by omega)
  kb := fun j hj => by rw [getD_put_ne _ _ _ _ (by omega)]; exact h.kb j (by omega)
  hp := b1
  hq := b2
  hr := b3
  hs := b4
  ha := b5
  hb := b6
  e1 := by
    rw [take_put _ _ _ (by rw [h.la]; exact hk), mod_pow_succ WB Y k WB_two, mod_pow_succ WB X k WB_two, ← hx, ← hy, Nat.pow_succ]
    exact Step.lehmer h.e1 h1 h2 h3
  e2 := by
    rw [take_put _ _ _ (by rw [h.lb]; exact hk), mod_pow_succ WB Y k WB_two, mod_pow_succ WB X k WB_two, ← hx, ← hy, Nat.pow_succ]
    exact Step.lehmer h.e2 h4 h5 h6

theorem ApplyAt.done {n X Y U0 V0 U1 V1 A' B' : Nat} {xs ys az bz : List Nat} {pc qc rc sc ab bb : Nat} (h : ApplyAt n X Y U0 V0 U1 V1 xs ys az bz n pc qc rc sc ab bb) (hX : X < WB ^ n) (hY : Y < WB ^ n) (hA : A' + V0 * Y = U0 * X) (hB : B' + U1 * X = V1 * Y) (hAn : A' < WB ^ n) (hBn : B' < WB ^ n) :
    val WB az = A' ∧ val WB bz = B' := by
  have e1 := h.e1
  have e2 := h.e2
  rw [Nat.mod_eq_of_lt hX, Nat.mod_eq_of_lt hY, List.take_of_length_le (by rw [h.la]; omega)] at e1
  rw [Nat.mod_eq_of_lt hX, Nat.mod_eq_of_lt hY, List.take_of_length_le (by rw [h.lb]; omega)] at e2
  have l1 := val_lt WB az h.da
  have l2 := val_lt WB bz h.db
  rw [h.la] at l1
  rw [h.lb] at l2
  exact ⟨mod_fit (p := pc) (q := qc + ab) l1 hAn (by omega), mod_fit (p := rc) (q := sc + bb) l2 hBn (by omega)⟩

theorem put4_below {W : World} {B g : Nat} {p q r s : Value} (h : B ≤ g) : Below B W ((((W.setCell ⟨g, 0, none⟩ p).setCell ⟨g, 1, none⟩ q).setCell ⟨g, 2, none⟩ r).setCell ⟨g, 3, none⟩ s) :=
  ((((Below.refl B W).setCell (p := ⟨g, 0, none⟩) h p).setCell (p := ⟨g, 1, none⟩) h q).setCell (p := ⟨g, 2, none⟩) h r).setCell (p := ⟨g, 3, none⟩) h s

theorem Box.put4 {w : World} {g : Nat} {t : TypeId} {a b c d e : Value} (h : Box w g t #[a, b, c, d, e]) (p q r s : Value) :
    Box ((((w.setCell ⟨g, 0, none⟩ p).setCell ⟨g, 1, none⟩ q).setCell ⟨g, 2, none⟩ r).setCell ⟨g, 3, none⟩ s) g t #[p, q, r, s, e] :=
  (((h.set 0 p).set 1 q).set 2 r).set 3 s

end Go.Proofs.YtbcckgofoknmbaaDoor
/-
  The program's steps of Lehmer's algorithm, applied to two rows of words in place: the steps that are not negated.
-/
namespace Go.Proofs.YtbcckgofoknmbaaDoor
open Go.RowKit Num

set_option maxRecDepth 100000 in
set_option maxHeartbeats 3200000 in
theorem apply_plain (ga oa ca gb ob cb n : Nat) (xs ys : List Nat) (u0 v0 u1 v1 A' B' : Nat) (w : World) (hn : n ≤ 1099511627776) (ha : RowW 64 w ga oa xs) (hb : RowW 64 w gb ob ys) (hne : ga ≠ gb)
    (hxl : xs.length = n) (hyl : ys.length = n) (hxd : Dig WB xs) (hyd : Dig WB ys) (h1 : u0 < WB) (h2 : v0 < WB) (h3 : u1 < WB) (h4 : v1 < WB) (hA : A' + v0 * val WB ys = u0 * val WB xs) (hB : B' + u1 * val WB xs = v1 * val WB ys) (hAn : A' < WB ^ n) (hBn : B' < WB ^ n) :
    Calls Tryd.prog 57 #[.agg #[.int .u64 (u0 : Nat), .int .u64 (v0 : Nat), .int .u64 (u1 : Nat), .int .u64 (v1 : Nat), .bool false], .slice (some ⟨ga, oa, none⟩) n ca, .slice (some ⟨gb, ob, none⟩) n cb] w fun e w' =>
      (∃ r az bz, e = .returned r ∧ az.length = n ∧ bz.length = n ∧ Dig WB az ∧ Dig WB bz ∧ val WB az = A' ∧ val WB bz = B' ∧ RowW 64 w' ga oa az ∧ RowW 64 w' gb ob bz) ∧ (∀ B, B ≤ ga → B ≤ gb → Below B w w') := by
  have hw2 := WB_two
  have hga := ha.lt
  have hgb := hb.lt
  have hX : val WB xs < WB ^ n := by have := val_lt WB xs hxd; rwa [hxl] at this
  have hY : val WB ys < WB ^ n := by have := val_lt WB ys hyd; rwa [hyl] at this
  have xg : ∀ j, xs.getD j 0 = dg WB (val WB xs) j := fun j => by rw [getD_val WB xs hxd, dg_eq WB hw2]
  have yg : ∀ j, ys.getD j 0 = dg WB (val WB ys) j := fun j => by rw [getD_val WB ys hyd, dg_eq WB hw2]
  have Xg := Lib.hid xg; clear xg
  have Yg := Lib.hid yg; clear yg
  have hfin : ∀ az bz pc qc rc sc ab bb, ApplyAt n (val WB xs) (val WB ys) u0 v0 u1 v1 xs ys az bz n pc qc rc sc ab bb → val WB az = A' ∧ val WB bz = B' := fun az bz pc qc rc sc ab bb h => h.done hX hY hA hB hAn hBn
  have Hfin := Lib.hid hfin; clear hfin
  have h0 : ApplyAt n (val WB xs) (val WB ys) u0 v0 u1 v1 xs ys xs ys 0 0 0 0 0 0 0 :=
    ⟨hxl, hyl, hxd, hyd, fun _ _ => rfl, fun _ _ => rfl, by omega, by omega, by omega, by omega, by omega, by omega, by simp [val, Nat.mod_one], by simp [val, Nat.mod_one]⟩
  have H0 := Lib.hid h0; clear h0
  have Ha := Lib.hid ha; clear ha
  have Hb := Lib.hid hb; clear hb
  have H1 := Lib.hid h1; clear h1
  have H2 := Lib.hid h2; clear h2
  have H3 := Lib.hid h3; clear h3
  have H4 := Lib.hid h4; clear h4
  clear hA hB hAn hBn hxl hyl hxd hyd hX hY
  obtain ⟨g, hg⟩ : ∃ g, g = w.heap.size := ⟨_, rfl⟩
  have hbox := Box.new w 89 #[.int .u64 (u0 : Nat), .int .u64 (v0 : Nat), .int .u64 (u1 : Nat), .int .u64 (v1 : Nat), .bool false]
  obtain ⟨⟨b0, b1, b2, b3, b4⟩, f0, f1, f2, f3, f4⟩ := hbox.five
  have Hbox := Lib.hid hbox
  go_enter Tryd.func57, Tryd.ntmps57
  go_wp2_with fail
  go_loopw [6, 7, 8, 9, 10, 11, 33] (fun s6 s7 s8 s9 s10 s11 i wr => ∃ (k pc qc rc sc ab bb : Nat) (az bz : List Nat), s6 = .int .u64 (pc : Nat) ∧ s7 = .int .u64 (qc : Nat) ∧ s8 = .int .u64 (rc : Nat) ∧ s9 = .int .u64 (sc : Nat) ∧ s10 = .int .u64 (ab : Nat) ∧ s11 = .int .u64 (bb : Nat) ∧ i = .int .i64 (k : Nat) ∧ k ≤ n ∧
      ApplyAt n (val WB xs) (val WB ys) u0 v0 u1 v1 xs ys az bz k pc qc rc sc ab bb ∧ RowW 64 wr ga oa az ∧ RowW 64 wr gb ob bz ∧ Box wr w.heap.size 89 #[.int .u64 (u0 : Nat), .int .u64 (v0 : Nat), .int .u64 (u1 : Nat), .int .u64 (v1 : Nat), .bool false] ∧ (∀ B, B ≤ ga → B ≤ gb → Below B w wr)) (fun _ _ _ _ _ _ i _ => n - (intOf i).toNat)
  case atStart => exact ⟨0, 0, 0, 0, 0, 0, 0, xs, ys, rfl, rfl, rfl, rfl, rfl, rfl, rfl, by omega, H0.out, Ha.out.below ((Below.refl _ w).alloc (Nat.le_refl _) _) hga, Hb.out.below ((Below.refl _ w).alloc (Nat.le_refl _) _) hgb, Hbox.out, fun B h5 h6 => (Below.refl B w).alloc (by omega) _⟩
  case round =>
    clear H0 Hbox b0 b1 b2 b3 b4 f0 f1 f2 f3 f4
    obtain ⟨k, pc, qc, rc, sc, ab, bb, az, bz, rfl, rfl, rfl, rfl, rfl, rfl, rfl, hkn, hat, hra, hrb, hbx, hbel⟩ := hrel
    obtain ⟨⟨c0, c1, c2, c3, c4⟩, _⟩ := hbx.five
    have Hat := Lib.hid hat; clear hat
    have Hra := Lib.hid hra; clear hra
    have Hrb := Lib.hid hrb; clear hrb
    have Hbx := Lib.hid hbx; clear hbx
    have Hbel := Lib.hid hbel; clear hbel
    by_cases hk : k < n
    · obtain ⟨x, hx⟩ : ∃ x, x = xs.getD k 0 := ⟨_, rfl⟩
      obtain ⟨y, hy⟩ : ∃ y, y = ys.getD k 0 := ⟨_, rfl⟩
      have hca : wr.cell? ⟨ga, oa + k, none⟩ = some (.int .u64 (x : Nat)) := by rw [hx, ← Hat.out.ka k (Nat.le_refl _)]; exact Hra.out.cell (by rw [Hat.out.la]; exact hk)
      have hcb : wr.cell? ⟨gb, ob + k, none⟩ = some (.int .u64 (y : Nat)) := by rw [hy, ← Hat.out.kb k (Nat.le_refl _)]; exact Hrb.out.cell (by rw [Hat.out.lb]; exact hk)
      have hfa : wr.frozen? ⟨ga, oa + k, none⟩ = false := Hra.out.free _
      rw [Xg.out] at hx
      rw [Yg.out] at hy
      have hxb : x < WB := by rw [hx]; exact dg_lt _ _ _ hw2
      have hyb : y < WB := by rw [hy]; exact dg_lt _ _ _ hw2
      obtain ⟨p1, hp1⟩ : ∃ p, p = (x * u0 + pc) % WB := ⟨_, rfl⟩
      obtain ⟨pc', hpc'⟩ : ∃ p, p = (x * u0 + pc) / WB := ⟨_, rfl⟩
      have p1b : p1 < WB := by rw [hp1]; exact Nat.mod_lt _ (by omega)
      have pcb : pc' < WB := by rw [hpc']; exact mulAdd_hi hxb H1.out Hat.out.hp
      have hm1 : x * u0 + pc = p1 + pc' * WB := by rw [hp1, hpc', Nat.mul_comm _ WB]; exact (Nat.mod_add_div _ _).symm
      have M1 : Hid (∀ W, Calls Tryd.prog 71 #[.int .u64 (x : Nat), .int .u64 (u0 : Nat), .int .u64 (pc : Nat)] W fun e w' => e = .returned (.tuple #[.int .u64 (p1 : Nat), .int .u64 (pc' : Nat)]) ∧ W = w') := Lib.hid fun W => mulAdd_same x u0 pc p1 pc' hxb H1.out Hat.out.hp hp1 hpc' W
      clear hp1 hpc'
      obtain ⟨q1, hq1⟩ : ∃ p, p = (y * v0 + qc) % WB := ⟨_, rfl⟩
      obtain ⟨qc', hqc'⟩ : ∃ p, p = (y * v0 + qc) / WB := ⟨_, rfl⟩
      have q1b : q1 < WB := by rw [hq1]; exact Nat.mod_lt _ (by omega)
      have qcb : qc' < WB := by rw [hqc']; exact mulAdd_hi hyb H2.out Hat.out.hq
      have hm2 : y * v0 + qc = q1 + qc' * WB := by rw [hq1, hqc', Nat.mul_comm _ WB]; exact (Nat.mod_add_div _ _).symm
      have M2 : Hid (∀ W, Calls Tryd.prog 71 #[.int .u64 (y : Nat), .int .u64 (v0 : Nat), .int .u64 (qc : Nat)] W fun e w' => e = .returned (.tuple #[.int .u64 (q1 : Nat), .int .u64 (qc' : Nat)]) ∧ W = w') := Lib.hid fun W => mulAdd_same y v0 qc q1 qc' hyb H2.out Hat.out.hq hq1 hqc' W
      clear hq1 hqc'
      obtain ⟨p2, hp2⟩ : ∃ p, p = (y * v1 + rc) % WB := ⟨_, rfl⟩
      obtain ⟨rc', hrc'⟩ : ∃ p, p = (y * v1 + rc) / WB := ⟨_, rfl⟩
      have p2b : p2 < WB := by rw [hp2]; exact Nat.mod_lt _ (by omega)
      have rcb : rc' < WB := by rw [hrc']; exact mulAdd_hi hyb H4.out Hat.out.hr
      have hm3 : y * v1 + rc = p2 + rc' * WB := by rw [hp2, hrc', Nat.mul_comm _ WB]; exact (Nat.mod_add_div _ _).symm
      have M3 : Hid (∀ W, Calls Tryd.prog 71 #[.int .u64 (y : Nat), .int .u64 (v1 : Nat), .int .u64 (rc : Nat)] W fun e w' => e = .returned (.tuple #[.int .u64 (p2 : Nat), .int .u64 (rc' : Nat)]) ∧ W = w') := Lib.hid fun W => mulAdd_same y v1 rc p2 rc' hyb H4.out Hat.out.hr hp2 hrc' W
      clear hp2 hrc'
      obtain ⟨q2, hq2⟩ : ∃ p, p = (x * u1 + sc) % WB := ⟨_, rfl⟩
      obtain ⟨sc', hsc'⟩ : ∃ p, p = (x * u1 + sc) / WB := ⟨_, rfl⟩
      have q2b : q2 < WB := by rw [hq2]; exact Nat.mod_lt _ (by omega)
      have scb : sc' < WB := by rw [hsc']; exact mulAdd_hi hxb H3.out Hat.out.hs
      have hm4 : x * u1 + sc = q2 + sc' * WB := by rw [hq2, hsc', Nat.mul_comm _ WB]; exact (Nat.mod_add_div _ _).symm
      have M4 : Hid (∀ W, Calls Tryd.prog 71 #[.int .u64 (x : Nat), .int .u64 (u1 : Nat), .int .u64 (sc : Nat)] W fun e w' => e = .returned (.tuple #[.int .u64 (q2 : Nat), .int .u64 (sc' : Nat)]) ∧ W = w') := Lib.hid fun W => mulAdd_same x u1 sc q2 sc' hxb H3.out Hat.out.hs hq2 hsc' W
      clear hq2 hsc'
      obtain ⟨d1, hd1⟩ : ∃ d, d = (p1 + WB - q1 - ab) % WB := ⟨_, rfl⟩
      obtain ⟨ab', hab'⟩ : ∃ b, b = if p1 < q1 + ab then 1 else 0 := ⟨_, rfl⟩
      obtain ⟨d2, hd2⟩ : ∃ d, d = (p2 + WB - q2 - bb) % WB := ⟨_, rfl⟩
      obtain ⟨bb', hbb'⟩ : ∃ b, b = if p2 < q2 + bb then 1 else 0 := ⟨_, rfl⟩
      have hs1 : ∀ W, (callFunc 77 #[.int .u64 (p1 : Nat), .int .u64 (q1 : Nat), .int .u64 (ab : Nat)]).run Tryd.prog W = .ok (.value (.tuple #[.int .u64 (d1 : Nat), .int .u64 (ab' : Nat)])) W := fun W => by rw [hd1, hab']; exact Tryd.sub64_run p1 q1 ab Hat.out.ha W
      have hs2 : ∀ W, (callFunc 77 #[.int .u64 (p2 : Nat), .int .u64 (q2 : Nat), .int .u64 (bb : Nat)]).run Tryd.prog W = .ok (.value (.tuple #[.int .u64 (d2 : Nat), .int .u64 (bb' : Nat)])) W := fun W => by rw [hd2, hbb']; exact Tryd.sub64_run p2 q2 bb Hat.out.hb W
      have hnext := Hat.out.next (x := x) (y := y) (p1 := p1) (q1 := q1) (p2 := p2) (q2 := q2) (pc' := pc') (qc' := qc') (rc' := rc') (sc' := sc') (d1 := d1) (d2 := d2) (ab' := ab') (bb' := bb') hk hx hy hm1 hm2
        (by rw [hd1, hab']; exact Step.borrow p1b q1b Hat.out.ha) hm3 hm4 (by rw [hd2, hbb']; exact Step.borrow p2b q2b Hat.out.hb) pcb qcb rcb scb (by rw [hab']; split <;> omega) (by rw [hbb']; split <;> omega) (by rw [hd1]; exact Nat.mod_lt _ (by omega)) (by rw [hd2]; exact Nat.mod_lt _ (by omega))
      have Hnext := Lib.hid hnext; clear hnext
      have hra2 : ∀ q : Nat, RowW 64 ((wr.drewN q).setCell ⟨ga, oa + k, none⟩ (.int .u64 (d1 : Nat))) ga oa (az.set k d1) := fun q => (Hra.out.drewN q).set k (by rw [Hat.out.la]; exact hk) d1
      have hrb2 : ∀ q : Nat, RowW 64 ((wr.drewN q).setCell ⟨ga, oa + k, none⟩ (.int .u64 (d1 : Nat))) gb ob bz := fun q => (Hrb.out.drewN q).far (p := ⟨ga, oa + k, none⟩) (fun e => hne e.symm) _
      have hbx2 : ∀ q : Nat, Box ((wr.drewN q).setCell ⟨ga, oa + k, none⟩ (.int .u64 (d1 : Nat))) w.heap.size 89 #[.int .u64 (u0 : Nat), .int .u64 (v0 : Nat), .int .u64 (u1 : Nat), .int .u64 (v1 : Nat), .bool false] := fun q => (Below.heap_setCell _ _ _ _ (by show w.heap.size ≠ ga; omega)).trans Hbx.out
      have hcb2 := fun q => (hrb2 q).cell (j := k) (by rw [Hat.out.lb]; exact hk)
      have hfb2 : ∀ q : Nat, ((wr.drewN q).setCell ⟨ga, oa + k, none⟩ (.int .u64 (d1 : Nat))).frozen? ⟨gb, ob + k, none⟩ = false := fun q => (hrb2 q).free _
      have e2 := fun q => (hbx2 q).five.1.2.2.1
      have e3 := fun q => (hbx2 q).five.1.2.2.2.1
      have Hra2 := Lib.hid hra2; clear hra2
      have Hrb2 := Lib.hid hrb2; clear hrb2
      have Hbx2 := Lib.hid hbx2; clear hbx2
      clear hx hy hxb hyb hd1 hab' hd2 hbb' hm1 hm2 hm3 hm4 p1b q1b p2b q2b pcb qcb rcb scb
      go_wp2_with fail
      go_quiet (fail)
      go_wp2_with (go_at_call 71; first
        | ((with_reducible refine (M1.out _).mono ?_); rintro e w' ⟨rfl, rfl⟩)
        | ((with_reducible refine (M2.out _).mono ?_); rintro e w' ⟨rfl, rfl⟩)
        | ((with_reducible refine (M3.out _).mono ?_); rintro e w' ⟨rfl, rfl⟩)
        | ((with_reducible refine (M4.out _).mono ?_); rintro e w' ⟨rfl, rfl⟩))
      go_roundw
      case rel =>
        refine ⟨k + 1, pc', qc', rc', sc', ab', bb', az.set k d1, bz.set k d2, rfl, rfl, rfl, rfl, rfl, rfl, by go_num, by omega, Hnext.out, ?_, ?_, ?_, ?_⟩
        · exact (Hra2.out _).far (p := ⟨gb, ob + k, none⟩) hne _
        · exact (Hrb2.out _).set k (by rw [Hat.out.lb]; exact hk) d2
        · exact (Below.heap_setCell _ _ _ _ (by show w.heap.size ≠ gb; omega)).trans (Hbx2.out _)
        · exact fun B hB1 hB2 => ((below_drewN _ (Hbel.out B hB1 hB2)).setCell (p := ⟨ga, oa + k, none⟩) hB1 _).setCell (p := ⟨gb, ob + k, none⟩) hB2 _
      case measure => simp [intOf]; omega
    · obtain rfl : k = n := by omega
      have HF := Lib.hid (Hfin.out _ _ _ _ _ _ _ _ Hat.out)
      go_wp2_with fail
      go_end0
      exact ⟨⟨_, az, bz, rfl, Hat.out.la, Hat.out.lb, Hat.out.da, Hat.out.db, HF.out.1, HF.out.2, Hra.out, Hrb.out⟩, Hbel.out⟩

end Go.Proofs.YtbcckgofoknmbaaDoor
/-
  The program's steps of Lehmer's algorithm, applied to two rows of words in place: the negated steps.
-/
namespace Go.Proofs.YtbcckgofoknmbaaDoor
open Go.RowKit Num

set_option maxRecDepth 100000 in
set_option maxHeartbeats 3200000 in
theorem apply_swapped (ga oa ca gb ob cb n : Nat) (xs ys : List Nat) (u0 v0 u1 v1 A' B' : Nat) (w : World) (hn : n ≤ 1099511627776) (ha : RowW 64 w ga oa xs) (hb : RowW 64 w gb ob ys) (hne : ga ≠ gb)
    (hxl : xs.length = n) (hyl : ys.length = n) (hxd : Dig WB xs) (hyd : Dig WB ys) (h1 : u0 < WB) (h2 : v0 < WB) (h3 : u1 < WB) (h4 : v1 < WB) (hA : A' + u0 * val WB xs = v0 * val WB ys) (hB : B' + v1 * val WB ys = u1 * val WB xs) (hAn : A' < WB ^ n) (hBn : B' < WB ^ n) :
    Calls Tryd.prog 57 #[.agg #[.int .u64 (u0 : Nat), .int .u64 (v0 : Nat), .int .u64 (u1 : Nat), .int .u64 (v1 : Nat), .bool true], .slice (some ⟨ga, oa, none⟩) n ca, .slice (some ⟨gb, ob, none⟩) n cb] w fun e w' =>
      (∃ r az bz, e = .returned r ∧ az.length = n ∧ bz.length = n ∧ Dig WB az ∧ Dig WB bz ∧ val WB az = A' ∧ val WB bz = B' ∧ RowW 64 w' ga oa az ∧ RowW 64 w' gb ob bz) ∧ (∀ B, B ≤ ga → B ≤ gb → Below B w w') := by
  have hw2 := WB_two
  have hga := ha.lt
  have hgb := hb.lt
  have hX : val WB xs < WB ^ n := by have := val_lt WB xs hxd; rwa [hxl] at this
  have hY : val WB ys < WB ^ n := by have := val_lt WB ys hyd; rwa [hyl] at this
  have xg : ∀ j, xs.getD j 0 = dg WB (val WB xs) j := fun j => by rw [getD_val WB xs hxd, dg_eq WB hw2]
  have yg : ∀ j, ys.getD j 0 = dg WB (val WB ys) j := fun j => by rw [getD_val WB ys hyd, dg_eq WB hw2]
  have Xg := Lib.hid xg; clear xg
  have Yg := Lib.hid yg; clear yg
  have hfin : ∀ az bz pc qc rc sc ab bb, ApplyAt n (val WB ys) (val WB xs) v0 u0 v1 u1 xs ys az bz n pc qc rc sc ab bb → val WB az = A' ∧ val WB bz = B' := fun az bz pc qc rc sc ab bb h => h.done hY hX hA hB hAn hBn
  have Hfin := Lib.hid hfin; clear hfin
  have h0 : ApplyAt n (val WB ys) (val WB xs) v0 u0 v1 u1 xs ys xs ys 0 0 0 0 0 0 0 :=
    ⟨hxl, hyl, hxd, hyd, fun _ _ => rfl, fun _ _ => rfl, by omega, by omega, by omega, by omega, by omega, by omega, by simp [val, Nat.mod_one], by simp [val, Nat.mod_one]⟩
  have H0 := Lib.hid h0; clear h0
  have Ha := Lib.hid ha; clear ha
  have Hb := Lib.hid hb; clear hb
  have H1 := Lib.hid h1; clear h1
  have H2 := Lib.hid h2; clear h2
  have H3 := Lib.hid h3; clear h3
  have H4 := Lib.hid h4; clear h4
  clear hA hB hAn hBn hxl hyl hxd hyd hX hY
  obtain ⟨g, hg⟩ : ∃ g, g = w.heap.size := ⟨_, rfl⟩
  have hbox := Box.new w 89 #[.int .u64 (u0 : Nat), .int .u64 (v0 : Nat), .int .u64 (u1 : Nat), .int .u64 (v1 : Nat), .bool true]
  obtain ⟨⟨b0, b1, b2, b3, b4⟩, f0, f1, f2, f3, f4⟩ := hbox.five
  have Hbox := Lib.hid hbox
  have Hbx0 := Lib.hid (Box.new w 89 #[.int .u64 (v0 : Nat), .int .u64 (u0 : Nat), .int .u64 (v1 : Nat), .int .u64 (u1 : Nat), .bool true])
  go_enter Tryd.func57, Tryd.ntmps57
  go_wp2_with fail
  go_loopw [6, 7, 8, 9, 10, 11, 33] (fun s6 s7 s8 s9 s10 s11 i wr => ∃ (k pc qc rc sc ab bb : Nat) (az bz : List Nat), s6 = .int .u64 (pc : Nat) ∧ s7 = .int .u64 (qc : Nat) ∧ s8 = .int .u64 (rc : Nat) ∧ s9 = .int .u64 (sc : Nat) ∧ s10 = .int .u64 (ab : Nat) ∧ s11 = .int .u64 (bb : Nat) ∧ i = .int .i64 (k : Nat) ∧ k ≤ n ∧
      ApplyAt n (val WB ys) (val WB xs) v0 u0 v1 u1 xs ys az bz k pc qc rc sc ab bb ∧ RowW 64 wr ga oa az ∧ RowW 64 wr gb ob bz ∧ Box wr w.heap.size 89 #[.int .u64 (v0 : Nat), .int .u64 (u0 : Nat), .int .u64 (v1 : Nat), .int .u64 (u1 : Nat), .bool true] ∧ (∀ B, B ≤ ga → B ≤ gb → Below B w wr)) (fun _ _ _ _ _ _ i _ => n - (intOf i).toNat)
  case atStart => exact ⟨0, 0, 0, 0, 0, 0, 0, xs, ys, rfl, rfl, rfl, rfl, rfl, rfl, rfl, by omega, H0.out, Ha.out.below ((Below.refl _ w).alloc (Nat.le_refl _) _) hga, Hb.out.below ((Below.refl _ w).alloc (Nat.le_refl _) _) hgb, Hbx0.out, fun B h5 h6 => (Below.refl B w).alloc (by omega) _⟩
  case round =>
    clear H0 Hbx0 Hbox b0 b1 b2 b3 b4 f0 f1 f2 f3 f4
    obtain ⟨k, pc, qc, rc, sc, ab, bb, az, bz, rfl, rfl, rfl, rfl, rfl, rfl, rfl, hkn, hat, hra, hrb, hbx, hbel⟩ := hrel
    obtain ⟨⟨c0, c1, c2, c3, c4⟩, _⟩ := hbx.five
    have Hat := Lib.hid hat; clear hat
    have Hra := Lib.hid hra; clear hra
    have Hrb := Lib.hid hrb; clear hrb
    have Hbx := Lib.hid hbx; clear hbx
    have Hbel := Lib.hid hbel; clear hbel
    by_cases hk : k < n
    · obtain ⟨x, hx⟩ : ∃ x, x = xs.getD k 0 := ⟨_, rfl⟩
      obtain ⟨y, hy⟩ : ∃ y, y = ys.getD k 0 := ⟨_, rfl⟩
      have hca : wr.cell? ⟨ga, oa + k, none⟩ = some (.int .u64 (x : Nat)) := by rw [hx, ← Hat.out.ka k (Nat.le_refl _)]; exact Hra.out.cell (by rw [Hat.out.la]; exact hk)
      have hcb : wr.cell? ⟨gb, ob + k, none⟩ = some (.int .u64 (y : Nat)) := by rw [hy, ← Hat.out.kb k (Nat.le_refl _)]; exact Hrb.out.cell (by rw [Hat.out.lb]; exact hk)
      have hfa : wr.frozen? ⟨ga, oa + k, none⟩ = false := Hra.out.free _
      rw [Xg.out] at hx
      rw [Yg.out] at hy
      have hxb : x < WB := by rw [hx]; exact dg_lt _ _ _ hw2
      have hyb : y < WB := by rw [hy]; exact dg_lt _ _ _ hw2
      obtain ⟨p1, hp1⟩ : ∃ p, p = (y * v0 + pc) % WB := ⟨_, rfl⟩
      obtain ⟨pc', hpc'⟩ : ∃ p, p = (y * v0 + pc) / WB := ⟨_, rfl⟩
      have p1b : p1 < WB := by rw [hp1]; exact Nat.mod_lt _ (by omega)
      have pcb : pc' < WB := by rw [hpc']; exact mulAdd_hi hyb H2.out Hat.out.hp
      have hm1 : y * v0 + pc = p1 + pc' * WB := by rw [hp1, hpc', Nat.mul_comm _ WB]; exact (Nat.mod_add_div _ _).symm
      have M1 : Hid (∀ W, Calls Tryd.prog 71 #[.int .u64 (y : Nat), .int .u64 (v0 : Nat), .int .u64 (pc : Nat)] W fun e w' => e = .returned (.tuple #[.int .u64 (p1 : Nat), .int .u64 (pc' : Nat)]) ∧ W = w') := Lib.hid fun W => mulAdd_same y v0 pc p1 pc' hyb H2.out Hat.out.hp hp1 hpc' W
      clear hp1 hpc'
      obtain ⟨q1, hq1⟩ : ∃ p, p = (x * u0 + qc) % WB := ⟨_, rfl⟩
      obtain ⟨qc', hqc'⟩ : ∃ p, p = (x * u0 + qc) / WB := ⟨_, rfl⟩
      have q1b : q1 < WB := by rw [hq1]; exact Nat.mod_lt _ (by omega)
      have qcb : qc' < WB := by rw [hqc']; exact mulAdd_hi hxb H1.out Hat.out.hq
      have hm2 : x * u0 + qc = q1 + qc' * WB := by rw [hq1, hqc', Nat.mul_comm _ WB]; exact (Nat.mod_add_div _ _).symm
      have M2 : Hid (∀ W, Calls Tryd.prog 71 #[.int .u64 (x : Nat), .int .u64 (u0 : Nat), .int .u64 (qc : Nat)] W fun e w' => e = .returned (.tuple #[.int .u64 (q1 : Nat), .int .u64 (qc' : Nat)]) ∧ W = w') := Lib.hid fun W => mulAdd_same x u0 qc q1 qc' hxb H1.out Hat.out.hq hq1 hqc' W
      clear hq1 hqc'
      obtain ⟨p2, hp2⟩ : ∃ p, p = (x * u1 + rc) % WB := ⟨_, rfl⟩
      obtain ⟨rc', hrc'⟩ : ∃ p, p = (x * u1 + rc) / WB := ⟨_, rfl⟩
      have p2b : p2 < WB := by rw [hp2]; exact Nat.mod_lt _ (by omega)
      have rcb : rc' < WB := by rw [hrc']; exact mulAdd_hi hxb H3.out Hat.out.hr
      have hm3 : x * u1 + rc = p2 + rc' * WB := by rw [hp2, hrc', Nat.mul_comm _ WB]; exact (Nat.mod_add_div _ _).symm
      have M3 : Hid (∀ W, Calls Tryd.prog 71 #[.int .u64 (x : Nat), .int .u64 (u1 : Nat), .int .u64 (rc : Nat)] W fun e w' => e = .returned (.tuple #[.int .u64 (p2 : Nat), .int .u64 (rc' : Nat)]) ∧ W = w') := Lib.hid fun W => mulAdd_same x u1 rc p2 rc' hxb H3.out Hat.out.hr hp2 hrc' W
      clear hp2 hrc'
      obtain ⟨q2, hq2⟩ : ∃ p, p = (y * v1 + sc) % WB := ⟨_, rfl⟩
      obtain ⟨sc', hsc'⟩ : ∃ p, p = (y * v1 + sc) / WB := ⟨_, rfl⟩
      have q2b : q2 < WB := by rw [hq2]; exact Nat.mod_lt _ (by omega)
      have scb : sc' < WB := by rw [hsc']; exact mulAdd_hi hyb H4.out Hat.out.hs
      have hm4 : y * v1 + sc = q2 + sc' * WB := by rw [hq2, hsc', Nat.mul_comm _ WB]; exact (Nat.mod_add_div _ _).symm
      have M4 : Hid (∀ W, Calls Tryd.prog 71 #[.int .u64 (y : Nat), .int .u64 (v1 : Nat), .int .u64 (sc : Nat)] W fun e w' => e = .returned (.tuple #[.int .u64 (q2 : Nat), .int .u64 (sc' : Nat)]) ∧ W = w') := Lib.hid fun W => mulAdd_same y v1 sc q2 sc' hyb H4.out Hat.out.hs hq2 hsc' W
      clear hq2 hsc'
      obtain ⟨d1, hd1⟩ : ∃ d, d = (p1 + WB - q1 - ab) % WB := ⟨_, rfl⟩
      obtain ⟨ab', hab'⟩ : ∃ b, b = if p1 < q1 + ab then 1 else 0 := ⟨_, rfl⟩
      obtain ⟨d2, hd2⟩ : ∃ d, d = (p2 + WB - q2 - bb) % WB := ⟨_, rfl⟩
      obtain ⟨bb', hbb'⟩ : ∃ b, b = if p2 < q2 + bb then 1 else 0 := ⟨_, rfl⟩
      have hs1 : ∀ W, (callFunc 77 #[.int .u64 (p1 : Nat), .int .u64 (q1 : Nat), .int .u64 (ab : Nat)]).run Tryd.prog W = .ok (.value (.tuple #[.int .u64 (d1 : Nat), .int .u64 (ab' : Nat)])) W := fun W => by rw [hd1, hab']; exact Tryd.sub64_run p1 q1 ab Hat.out.ha W
      have hs2 : ∀ W, (callFunc 77 #[.int .u64 (p2 : Nat), .int .u64 (q2 : Nat), .int .u64 (bb : Nat)]).run Tryd.prog W = .ok (.value (.tuple #[.int .u64 (d2 : Nat), .int .u64 (bb' : Nat)])) W := fun W => by rw [hd2, hbb']; exact Tryd.sub64_run p2 q2 bb Hat.out.hb W
      have hnext := Hat.out.next (x := y) (y := x) (p1 := p1) (q1 := q1) (p2 := p2) (q2 := q2) (pc' := pc') (qc' := qc') (rc' := rc') (sc' := sc') (d1 := d1) (d2 := d2) (ab' := ab') (bb' := bb') hk hy hx hm1 hm2
        (by rw [hd1, hab']; exact Step.borrow p1b q1b Hat.out.ha) hm3 hm4 (by rw [hd2, hbb']; exact Step.borrow p2b q2b Hat.out.hb) pcb qcb rcb scb (by rw [hab']; split <;> omega) (by rw [hbb']; split <;> omega) (by rw [hd1]; exact Nat.mod_lt _ (by omega)) (by rw [hd2]; exact Nat.mod_lt _ (by omega))
      have Hnext := Lib.hid hnext; clear hnext
      have hra2 : ∀ q : Nat, RowW 64 ((wr.drewN q).setCell ⟨ga, oa + k, none⟩ (.int .u64 (d1 : Nat))) ga oa (az.set k d1) := fun q => (Hra.out.drewN q).set k (by rw [Hat.out.la]; exact hk) d1
      have hrb2 : ∀ q : Nat, RowW 64 ((wr.drewN q).setCell ⟨ga, oa + k, none⟩ (.int .u64 (d1 : Nat))) gb ob bz := fun q => (Hrb.out.drewN q).far (p := ⟨ga, oa + k, none⟩) (fun e => hne e.symm) _
      have hbx2 : ∀ q : Nat, Box ((wr.drewN q).setCell ⟨ga, oa + k, none⟩ (.int .u64 (d1 : Nat))) w.heap.size 89 #[.int .u64 (v0 : Nat), .int .u64 (u0 : Nat), .int .u64 (v1 : Nat), .int .u64 (u1 : Nat), .bool true] := fun q => (Below.heap_setCell _ _ _ _ (by show w.heap.size ≠ ga; omega)).trans Hbx.out
      have hcb2 := fun q => (hrb2 q).cell (j := k) (by rw [Hat.out.lb]; exact hk)
      have hfb2 : ∀ q : Nat, ((wr.drewN q).setCell ⟨ga, oa + k, none⟩ (.int .u64 (d1 : Nat))).frozen? ⟨gb, ob + k, none⟩ = false := fun q => (hrb2 q).free _
      have e2 := fun q => (hbx2 q).five.1.2.2.1
      have e3 := fun q => (hbx2 q).five.1.2.2.2.1
      have Hra2 := Lib.hid hra2; clear hra2
      have Hrb2 := Lib.hid hrb2; clear hrb2
      have Hbx2 := Lib.hid hbx2; clear hbx2
      clear hx hy hxb hyb hd1 hab' hd2 hbb' hm1 hm2 hm3 hm4 p1b q1b p2b q2b pcb qcb rcb scb
      go_wp2_with fail
      go_quiet (fail)
      go_wp2_with (go_at_call 71; first
        | ((with_reducible refine (M1.out _).mono ?_); rintro e w' ⟨rfl, rfl⟩)
        | ((with_reducible refine (M2.out _).mono ?_); rintro e w' ⟨rfl, rfl⟩)
        | ((with_reducible refine (M3.out _).mono ?_); rintro e w' ⟨rfl, rfl⟩)
        | ((with_reducible refine (M4.out _).mono ?_); rintro e w' ⟨rfl, rfl⟩))
      go_roundw
      case rel =>
        refine ⟨k + 1, pc', qc', rc', sc', ab', bb', az.set k d1, bz.set k d2, rfl, rfl, rfl, rfl, rfl, rfl, by go_num, by omega, Hnext.out, ?_, ?_, ?_, ?_⟩
        · exact (Hra2.out _).far (p := ⟨gb, ob + k, none⟩) hne _
        · exact (Hrb2.out _).set k (by rw [Hat.out.lb]; exact hk) d2
        · exact (Below.heap_setCell _ _ _ _ (by show w.heap.size ≠ gb; omega)).trans (Hbx2.out _)
        · exact fun B hB1 hB2 => ((below_drewN _ (Hbel.out B hB1 hB2)).setCell (p := ⟨ga, oa + k, none⟩) hB1 _).setCell (p := ⟨gb, ob + k, none⟩) hB2 _
      case measure => simp [intOf]; omega
    · obtain rfl : k = n := by omega
      have HF := Lib.hid (Hfin.out _ _ _ _ _ _ _ _ Hat.out)
      go_wp2_with fail
      go_end0
      exact ⟨⟨_, az, bz, rfl, Hat.out.la, Hat.out.lb, Hat.out.da, Hat.out.db, HF.out.1, HF.out.2, Hra.out, Hrb.out⟩, Hbel.out⟩

end Go.Proofs.YtbcckgofoknmbaaDoor
