/-
  The program's Expectation.
-/
import Derived.Test.YtlfghhmphgidjaaGreatDoorMomP
import Derived.Test.YtlfghhmphgidjaaGreatDoorDistS
import Derived.Test.YtlfghhmphgidjaaGreatDoorMeas
import Derived.Test.YtlfghhmphgidjaaGreatDoorMulM
import Derived.Test.YtlfghhmphgidjaaGreatDoorRatOfA
import Derived.Test.YtlfghhmphgidjaaGreatDoorDecAll
import Derived.Deep.RegionHeld3
namespace Go.Proofs.YtlfghhmphgidjaaGreatDoor
open Go.RowKit Num

theorem fracInt_one (x : Int) (w : World) (hT : Tab64 w) (h1 : -1000000 ≤ x) (h2 : x ≤ 1000000) :
    Calls Tryz.prog 70 #[.int .i64 x, .int .i64 1] w fun e w' => (∃ v, e = .returned v ∧ IsF w' v (decide (x < 0)) x.natAbs 1) ∧ Below w.heap.size w w' := by
  have h := fracInts_any x 1 w hT (by omega) (by omega) (by omega) (by omega) (by omega)
  have e1 : ((decide (x < 0) != decide ((1 : Int) < 0)) && decide (0 < x.natAbs)) = decide (x < 0) := by
    by_cases hx : x < 0
    · rw [decide_eq_true hx, decide_eq_true (show 0 < x.natAbs by omega)]; rfl
    · rw [decide_eq_false hx]; rfl
  have e2 : Nat.gcd x.natAbs (1 : Int).natAbs = 1 := Nat.gcd_one_right _
  rw [e1, e2, Nat.div_one, Nat.div_one] at h
  exact h

/-- What a round's region keeps: the measure's block, and all that is older than the call. -/
def KeepE (w w' : World) (cs : Array Value) : Prop := Below w.heap.size w w' ∧ Box w' w.heap.size 87 cs

theorem KeepE.drew {w w' : World} {cs : Array Value} (h : KeepE w w' cs) : KeepE w w'.drew cs := ⟨h.1.trans ((Below.refl w'.heap.size w').drew.mono h.1.size), h.2⟩
theorem KeepE.step {w w1 w2 : World} {cs : Array Value} (h : KeepE w w1 cs) (hb : Below w1.heap.size w1 w2) : KeepE w w2 cs := ⟨h.1.trans (hb.mono h.1.size), h.2.below hb h.2.lt⟩
theorem KeepE.put {w w1 : World} {cs : Array Value} {G i j l : Nat} (h : KeepE w w1 cs) (hG : w.heap.size < G) (x y z : Value) : KeepE w (((w1.setCell ⟨G, i, none⟩ x).setCell ⟨G, j, none⟩ y).setCell ⟨G, l, none⟩ z) cs :=
  ⟨((h.1.setCell (p := ⟨G, i, none⟩) (by show w.heap.size ≤ G; omega) x).setCell (p := ⟨G, j, none⟩) (by show w.heap.size ≤ G; omega) y).setCell (p := ⟨G, l, none⟩) (by show w.heap.size ≤ G; omega) z, ((h.2.far (show G ≠ w.heap.size by omega) i x).far (show G ≠ w.heap.size by omega) j y).far (show G ≠ w.heap.size by omega) l z⟩

theorem KeepE.holds {w w' : World} {a1 a2 a3 a4 a5 : Value} {b o : Nat} {sg vn vd : Value} (h : KeepE w w' #[a1, a2, a3, a4, a5]) (hlt : b < w.heap.size) (c0 : w.cell? ⟨b, o, none⟩ = some sg) (c1 : w.cell? ⟨b, o + 1, none⟩ = some vn) (c2 : w.cell? ⟨b, o + 2, none⟩ = some vd) :
    w'.cell? ⟨w.heap.size, 1, none⟩ = some a2 ∧ w'.cell? ⟨b, o, none⟩ = some sg ∧ w'.cell? ⟨b, o + 1, none⟩ = some vn ∧ w'.cell? ⟨b, o + 2, none⟩ = some vd ∧ KeepE w w' #[a1, a2, a3, a4, a5] :=
  ⟨h.2.cell 1, (h.1.cell (p := ⟨b, o, none⟩) hlt).trans c0, (h.1.cell (p := ⟨b, o + 1, none⟩) hlt).trans c1, (h.1.cell (p := ⟨b, o + 2, none⟩) hlt).trans c2, h⟩
theorem keepE_of {w w' : World} {p1 p2 p3 p4 : Prop} {cs : Array Value} (h : p1 ∧ p2 ∧ p3 ∧ p4 ∧ KeepE w w' cs) : KeepE w w' cs := h.2.2.2.2

theorem mean_tail {F : Nat → Int × Bool × ByteArray × ByteArray} {n : Nat} (hn : n ≤ 60) (hok : ptsOk F n = true) (two : Bool) (w : World) (hT : Tab64 w) (A : Option Addr) :
    ∀ W, FracAt W A n (momQ F two) → Below w.heap.size w W → Calls Tryz.prog 121 #[.slice A n n] W fun e w' => (∃ v, e = .returned v ∧ IsF w' v (momT F two n).1 (momT F two n).2.1 (momT F two n).2.2) ∧ Below W.heap.size W w' := fun W g hW => by
  have e : (fun j => momQ F two (0 + j)) = momQ F two := funext fun j => by rw [Nat.zero_add]
  exact sumF_any (momQ F two) n (by omega) 0 n A W (Nat.le_refl _) (by omega) (by rw [e]; exact g) (momQ_FitF hok) (hT.below hW)

set_option maxRecDepth 100000 in
set_option maxHeartbeats 3200000 in
theorem mean_any (A1 : Option Addr) (c1 : Nat) (A2 : Option Addr) (c2 : Nat) (sg : Bool) (A3 : Option Addr) (l3 c3 : Nat) (A4 : Option Addr) (l4 c4 : Nat) (n : Nat) (F : Nat → Int × Bool × ByteArray × ByteArray) (w : World) (hn : n ≤ 60) (hok : ptsOk F n = true) (h1 : IntAt w A1 n fun j => (F j).1) (h2 : FracAt w A2 n (massQ F)) (hT : Tab64 w) :
    Calls Tryz.prog 95 #[.agg #[.slice A1 n c1, .slice A2 n c2, .bool sg, .slice A3 l3 c3, .slice A4 l4 c4]] w fun e w' => (∃ v, e = .returned v ∧ IsF w' v (momT F false n).1 (momT F false n).2.1 (momT F false n).2.2) ∧ Below w.heap.size w w' := by
  have CS := fun A => Lib.hid (mean_tail hn hok false w hT A)
  have H1 := Lib.hid h1; clear h1
  have H2 := Lib.hid h2; clear h2
  have HOK := Lib.hid hok; clear hok
  have HT := Lib.hid hT; clear hT
  have hmk := mk_frac n (by omega)
  have e0 : ∀ (W : World) (o : Obj), (W.alloc o).heap.size = W.heap.size + 1 := fun W o => by simp
  have hM := ((Box.new w 87 #[.slice A1 n c1, .slice A2 n c2, .bool sg, .slice A3 l3 c3, .slice A4 l4 c4]).alloc (.cells #[.bool false, .slice none 0 0, .slice none 0 0] 85)).alloc (.cells (madeCells #[.bool false, .slice none 0 0, .slice none 0 0] (n * 3)) 85)
  have hMa := (Box.new w 87 #[.slice A1 n c1, .slice A2 n c2, .bool sg, .slice A3 l3 c3, .slice A4 l4 c4]).alloc (.cells #[.bool false, .slice none 0 0, .slice none 0 0] 85)
  have hR := (Box.new (w.alloc (.cells #[.slice A1 n c1, .slice A2 n c2, .bool sg, .slice A3 l3 c3, .slice A4 l4 c4] 87)) 85 #[.bool false, .slice none 0 0, .slice none 0 0]).alloc (.cells (madeCells #[.bool false, .slice none 0 0, .slice none 0 0] (n * 3)) 85)
  have hG := Box.new ((w.alloc (.cells #[.slice A1 n c1, .slice A2 n c2, .bool sg, .slice A3 l3 c3, .slice A4 l4 c4] 87)).alloc (.cells #[.bool false, .slice none 0 0, .slice none 0 0] 85)) 85 (madeCells #[.bool false, .slice none 0 0, .slice none 0 0] (n * 3))
  have hB := (((Below.refl w.heap.size w).alloc (Nat.le_refl _) (.cells #[.slice A1 n c1, .slice A2 n c2, .bool sg, .slice A3 l3 c3, .slice A4 l4 c4] 87)).alloc (by simp) (.cells #[.bool false, .slice none 0 0, .slice none 0 0] 85)).alloc (by simp; omega) (.cells (madeCells #[.bool false, .slice none 0 0, .slice none 0 0] (n * 3)) 85)
  rw [e0] at hR
  rw [e0, e0] at hG
  have m0 := hMa.cell 0
  have n0 := hM.cell 0
  clear e0
  go_enter Tryz.func95, Tryz.ntmps95
  go_wp2_with fail
  clear hmk m0 n0 hMa
  go_loopg [13] n (fun q iv wr => ∃ (k : Nat) (cs : Array Value), k + q = n ∧ iv = .int .i64 (k : Nat) ∧ cs.size = n * 3 ∧ Box wr (w.heap.size + 1 + 1) 85 cs ∧ FilledF wr cs (momQ F false) k ∧ Box wr (w.heap.size + 1) 85 #[.bool false, .slice none 0 0, .slice none 0 0] ∧ KeepE w wr #[.slice A1 n c1, .slice A2 n c2, .bool sg, .slice A3 l3 c3, .slice A4 l4 c4])
  case atStart => exact ⟨0, _, by omega, rfl, size_madeCells _ _, hG, fun j h => by omega, hR, hB, hM⟩
  case round =>
    obtain ⟨k, cs, hkq, rfl, hcs, hGr, hfill, hRr, hke⟩ := hrel
    have HF := Lib.hid hfill; clear hfill
    clear hG hR hB hM
    by_cases hk0 : k < n
    · obtain ⟨b1, o1, rfl, hl1, hi⟩ := H1.out (by omega)
      obtain ⟨b2, o2, rfl, hl2, hf⟩ := H2.out (by omega)
      obtain ⟨vn, vd, d0, d1, d2, gn, gd⟩ := hf k hk0
      obtain ⟨A5, c5, rfl, _, _, _⟩ := RowF.open gn
      obtain ⟨A6, c6, rfl, _, _, _⟩ := RowF.open gd
      have hv0 : wr.cell? ⟨b1, o1 + k, none⟩ = some (.int .i64 (F k).1) := (hke.1.cell (p := ⟨b1, o1 + k, none⟩) hl1).trans (hi k hk0)
      have hpo := ptOk_parts (ptsOk_at HOK.out hk0)
      have hql := qOf_low (F := massF F) (j := k) hpo.2.2.1
      have hqc := qOf_cap (F := massF F) (j := k) hpo.2.2.1
      have l1 := ln_of_pow (k := 1) WB_two capN_WB (by rw [Nat.pow_one]; exact hqc.1)
      have l2 := ln_of_pow (k := 1) WB_two capN_WB (by rw [Nat.pow_one]; exact hqc.2)
      have hmq : momQ F false k = mulO (decide ((F k).1 < 0)) (F k).1.natAbs 1 (massQ F k).1 (massQ F k).2.1 (massQ F k).2.2 := rfl
      have hm1 : (massQ F k).1 = false := hpo.2.2.2.1
      obtain ⟨v, hv⟩ : ∃ v, v = (F k).1 := ⟨_, rfl⟩
      rw [← hv] at hv0 hmq hpo
      obtain ⟨⟨ms, mN, mD⟩, hmm⟩ : ∃ o, o = massQ F k := ⟨_, rfl⟩
      have hql' : LowO (ms, mN, mD) := by rw [hmm]; exact hql
      rw [show qOf (massF F) k = massQ F k from rfl, ← hmm] at l1 l2
      rw [← hmm] at hmq gn gd d0 d1 d2 hm1
      simp only at hmq gn gd d0 d1 d2 l1 l2 hm1
      subst hm1
      obtain ⟨⟨ps, pN, pD⟩, hp⟩ : ∃ o, o = momQ F false k := ⟨_, rfl⟩
      rw [← hp] at hmq
      have hlv : ln WB v.natAbs ≤ 1 := ln_le_of_lt _ _ _ WB_two (by unfold WB; omega)
      have hl1' : ln WB 1 ≤ 1 := Nat.le_of_eq (Num.ln_one WB WB_two)
      have hvz : v.natAbs = 0 → decide (v < 0) = false := fun e => decide_eq_false (by omega)
      have hpos := hql'.pos
      have hgcd := hql'.gcd
      simp only at hpos hgcd
      have CI : Hid (∀ W, Below w.heap.size w W → _) := Lib.hid fun W hW => fracInt_one v W (HT.out.below hW) (by omega) (by omega)
      have CM : Hid (∀ (u1 u2 : Value) W, Below w.heap.size w W → Nums 143 .u64 WB W u1 v.natAbs → Nums 143 .u64 WB W u2 1 → Calls Tryz.prog 93 #[.agg #[.bool (decide (v < 0)), u1, u2], .agg #[.bool false, .slice A5 (ln WB mN) c5, .slice A6 (ln WB mD) c6]] W fun e w' => (∃ v, e = .returned v ∧ IsF w' v ps pN pD) ∧ Below W.heap.size W w') :=
        Lib.hid fun u1 u2 W hW q1 q2 => mulF_any (decide (v < 0)) false u1 u2 _ _ v.natAbs 1 mN mD W q1 q2 (gn.below hW (Nat.le_refl _)) (gd.below hW (Nat.le_refl _)) (HT.out.below hW) (by omega) (by omega) (by omega) (by omega) Nat.one_pos hpos (Nat.gcd_one_right _) hgcd hvz (fun _ => rfl) ps pN pD hmq.symm
      have i1 : (0 : Int) ≤ (k : Int) := by omega
      have i2 : (k : Int) < (n : Int) := by omega
      have hG0 : w.heap.size < w.heap.size + 1 + 1 := by omega
      have Hp := Lib.hid hp
      clear hi hf gn gd hpo hql hqc l1 l2 hmq hv hmm hql' hp hlv hl1' hvz hpos hgcd
      go_upto_region 5 with fail
      go_region_held3 (fun w' => w'.cell? ⟨w.heap.size, 1, none⟩ = some (.slice (some ⟨b2, o2, none⟩) n c2) ∧ w'.cell? ⟨b2, o2 + k * 3, none⟩ = some (.bool false) ∧ w'.cell? ⟨b2, o2 + k * 3 + 1, none⟩ = some (.slice A5 (ln WB mN) c5) ∧ w'.cell? ⟨b2, o2 + k * 3 + 2, none⟩ = some (.slice A6 (ln WB mD) c6) ∧ KeepE w w' #[.slice (some ⟨b1, o1, none⟩) n c1, .slice (some ⟨b2, o2, none⟩) n c2, .bool sg, .slice A3 l3 c3, .slice A4 l4 c4])
        ((refine KeepE.holds ?_ hl2 d0 d1 d2; first | exact hke.drew | exact keepE_of (by assumption) | (refine KeepE.step (keepE_of (by assumption)) ?_; assumption) | exact KeepE.put (keepE_of (by assumption)) hG0 _ _ _))
        (first
          | (go_at_call 70; refine (CI.out _ (keepE_of (by assumption)).1).mono ?_; rintro e wi ⟨⟨u, rfl, ui, uj, rfl, hui, huj⟩, hbi⟩; obtain ⟨A7, c7, rfl, _, _, _⟩ := RowF.open hui; obtain ⟨A8, c8, rfl, _, _, _⟩ := RowF.open huj)
          | (go_at_call 93; refine (CM.out _ _ _ (keepE_of (by assumption)).1 hui huj).mono ?_; rintro e wm ⟨⟨u, rfl, uN, uD, rfl, huN, huD⟩, hbm⟩; obtain ⟨A9, c9, rfl, _, _, _⟩ := RowF.open huN; obtain ⟨A10, c10, rfl, _, _, _⟩ := RowF.open huD; have h23 := (Below.refl wr.heap.size wr).drew.trans hbi; have h24 := h23.trans (hbm.mono h23.size); have hGm := hGr.below h24 hGr.lt; obtain ⟨z0, z1, z2, f0, f1, f2⟩ := three_at hGm (k * 3) (by omega)))
      all_goals go_wp2_with fail
      all_goals have hkf := keepE_of (by assumption)
      all_goals have hRm := hRr.below h24 hRr.lt
      all_goals have hFm := HF.out.below h24
      go_roundg (gk - 1)
      case measure => omega
      case rel =>
        have hm := hFm.more hcs hk0 (vn := .slice A9 (ln WB pN) c9) (vd := .slice A10 (ln WB pD) c10) (by rw [← Hp.out]; exact huN) (by rw [← Hp.out]; exact huD)
        rw [← Hp.out] at hm
        have k1 := hGm.set (k * 3) (.bool ps)
        have k2 := k1.set (k * 3 + 1) (.slice A9 (ln WB pN) c9)
        have k3 := k2.set (k * 3 + 2) (.slice A10 (ln WB pD) c10)
        exact ⟨k + 1, _, by omega, by go_num, by simp [hcs], k3, ((hm.set hGm (by decide)).set k1 (by decide)).set k2 (by decide), ((hRm.other (by omega) _ _).other (by omega) _ _).other (by omega) _ _, hkf⟩
    · obtain rfl : k = n := by omega
      have hFr := HF.out.at_ hGr
      obtain ⟨z0, z1, z2, f0, f1, f2⟩ := hRr.three
      go_wp2_with (go_at_call 121; refine ((CS _).out _ hFr hke.1).mono ?_; rintro e w2 ⟨⟨v, rfl, vn, vd, rfl, hvn, hvd⟩, hb2⟩; obtain ⟨A7, c7, rfl, _, _, _⟩ := RowF.open hvn; obtain ⟨A8, c8, rfl, _, _, _⟩ := RowF.open hvd; have hR2 := hRr.below hb2 hRr.lt; have hB2 := hke.1.trans (hb2.mono hke.1.size); obtain ⟨z0, z1, z2, f0, f1, f2⟩ := hR2.three)
      obtain ⟨m0, m1, m2⟩ := hR2.put3 (.bool (momT F false k).1) (.slice A7 (ln WB (momT F false k).2.1) c7) (.slice A8 (ln WB (momT F false k).2.2) c8)
      refine bodyPost_ret (v := .agg #[.bool (momT F false k).1, .slice A7 (ln WB (momT F false k).2.1) c7, .slice A8 (ln WB (momT F false k).2.2) c8]) (by simp [results, Tryz.results95, go_sem, m0, m1, m2]; done) rfl ⟨⟨_, rfl, _, _, rfl, Nums.put3 hvn hR2 (by decide) _ _ _, Nums.put3 hvd hR2 (by decide) _ _ _⟩, ?_⟩
      exact below_put3 hB2 (by omega) _ _ _

set_option maxRecDepth 100000 in
set_option maxHeartbeats 3200000 in
theorem implExp_any (A0 : Option Addr) (n cap : Nat) (F : Nat → Int × Bool × ByteArray × ByteArray) (w : World) (hn : n ≤ 1048576) (hA : PtAt w A0 n F) (hs : ∀ j, j < n → (F j).2.2.1.size ≤ 9223372036854775807 ∧ (F j).2.2.2.size ≤ 9223372036854775807) (hU : UnitB w) (hT : Tab64 w) (hP : TabP w) :
    Calls Tryz.prog 42 #[.agg #[.slice A0 n cap]] w fun e w' => e = .returned (expRes F n) ∧ Below w.heap.size w w' := by
  have CM : Hid (∀ W, Below w.heap.size w W → _) := Lib.hid fun W hW => meas_any A0 n cap F W hn (hA.below hW (Nat.le_refl _)) hs (hU.below hW) (hT.below hW)
  have hR := Box.new (w.alloc (.cells #[.slice A0 n cap] 32)) 27 #[.bool false, .string ⟨#[]⟩, .string ⟨#[]⟩]
  rw [show (w.alloc (.cells #[.slice A0 n cap] 32)).heap.size = w.heap.size + 1 by simp] at hR
  have hB := ((Below.refl w.heap.size w).alloc (Nat.le_refl _) (.cells #[.slice A0 n cap] 32)).alloc (by simp) (.cells #[.bool false, .string ⟨#[]⟩, .string ⟨#[]⟩] 27)
  have hd0 := ((Box.new w 32 #[.slice A0 n cap]).alloc (.cells #[.bool false, .string ⟨#[]⟩, .string ⟨#[]⟩] 27)).cell 0
  have HP := Lib.hid hP
  unfold expRes
  cases hv : distOk F n with
  | false =>
    have HV := Lib.hid hv
    clear hv hA hs hU hT hP
    rw [if_neg (by decide)]
    go_enter Tryz.func42, Tryz.ntmps42
    go_wp2_with (go_at_call 65; refine (CM.out _ hB).mono ?_; rintro e w1 ⟨he, hb1⟩; rw [if_neg (by rw [HV.out]; decide)] at he; subst he; unfold noMeas; have hR1 := (hR.below hb1 hR.lt).alloc (.cells #[.slice none 0 0, .slice none 0 0, .bool false, .slice none 0 0, .slice none 0 0] 87); have hB1 := (hB.trans (hb1.mono hB.size)).alloc (hB.trans (hb1.mono hB.size)).size (.cells #[.slice none 0 0, .slice none 0 0, .bool false, .slice none 0 0, .slice none 0 0] 87); obtain ⟨z0, z1, z2, f0, f1, f2⟩ := hR1.three)
    obtain ⟨m0, m1, m2⟩ := hR1.put3 (.bool false) (.string ⟨#[]⟩) (.string ⟨#[]⟩)
    refine bodyPost_ret (v := noRat) (by simp [results, Tryz.results42, go_sem, noRat, m0, m1, m2]; done) rfl ⟨rfl, ?_⟩
    exact below_put3 hB1 (by omega) _ _ _
  | true =>
    rw [if_pos rfl]
    have HV := Lib.hid hv
    obtain ⟨hn6, hok, _⟩ := distOk_parts hv
    have CE : Hid (∀ (A1 : Option Addr) (c1 : Nat) (A2 : Option Addr) (c2 : Nat) (A3 : Option Addr) (l3 c3 : Nat) (A4 : Option Addr) (l4 c4 : Nat) W, Below w.heap.size w W → IntAt W A1 n (fun j => (F j).1) → FracAt W A2 n (massQ F) → _) := Lib.hid fun A1 c1 A2 c2 A3 l3 c3 A4 l4 c4 W hW g1 g2 => mean_any A1 c1 A2 c2 false A3 l3 c3 A4 l4 c4 n F W hn6 hok g1 g2 (hT.below hW)
    obtain ⟨⟨sg, N, D⟩, ho⟩ : ∃ o, o = momT F false n := ⟨_, rfl⟩
    rw [← ho] at CE ⊢
    simp only at CE ⊢
    have CR : Hid (∀ (u1 u2 : Value) W, Below w.heap.size w W → Nums 143 .u64 WB W u1 N → Nums 143 .u64 WB W u2 D → _) := Lib.hid fun u1 u2 W hW g1 g2 => ratF_all sg u1 u2 N D W (staysP.below _ _ HP.out hW) g1 g2
    obtain ⟨rb, rx, ry, rc, hres⟩ := ratRes_shape sg N D
    rw [hres] at CR ⊢
    clear hv hA hs hU hT hP hres ho hok
    go_enter Tryz.func42, Tryz.ntmps42
    go_upto_region 4 with (go_at_call 65; refine (CM.out _ hB).mono ?_; rintro e w1 ⟨he, hb1⟩; rw [if_pos HV.out] at he; obtain ⟨A1, c1, A2, c2, A3, l3, c3, A4, l4, c4, rfl, gi, gf, _, _, _, _⟩ := he)
    have hal := (Below.refl w1.heap.size w1).alloc (Nat.le_refl _) (.cells #[.slice A1 n c1, .slice A2 n c2, .bool false, .slice A3 l3 c3, .slice A4 l4 c4] 87)
    have hM := Box.new w1 87 #[.slice A1 n c1, .slice A2 n c2, .bool false, .slice A3 l3 c3, .slice A4 l4 c4]
    have hR1 := (hR.below hb1 hR.lt).below hal (Nat.lt_of_lt_of_le hR.lt hb1.size)
    have hB1 := (hB.trans (hb1.mono hB.size)).trans (hal.mono (hB.trans (hb1.mono hB.size)).size)
    replace gi := gi.below hal (Nat.le_refl _)
    replace gf := gf.below hal (Nat.le_refl _)
    obtain ⟨⟨y0, y1, y2, y3, y4⟩, _⟩ := hM.five
    go_wp2_with (first
      | (go_at_call 95; refine (CE.out _ _ _ _ _ _ _ _ _ _ _ hB1 gi gf).mono ?_; rintro e w3 ⟨⟨v, rfl, vn, vd, rfl, gn, gd⟩, hb3⟩; obtain ⟨A7, c7, rfl, _, _, _⟩ := RowF.open gn; obtain ⟨A8, c8, rfl, _, _, _⟩ := RowF.open gd; have hR3 := hR1.below hb3 hR1.lt; have hB3 := hB1.trans (hb3.mono hB1.size))
      | (go_at_call 66; refine (CR.out _ _ _ hB3 gn gd).mono ?_; rintro e w2 ⟨rfl, hb2⟩; have hR2 := hR3.below hb2 hR3.lt; have hB2 := hB3.trans (hb2.mono hB3.size); obtain ⟨z0, z1, z2, f0, f1, f2⟩ := hR2.three))
    obtain ⟨m0, m1, m2⟩ := hR2.put3 (.bool rb) (.string rx) (.string ry)
    refine bodyPost_ret (v := .tuple #[.agg #[.bool rb, .string rx, .string ry], .bool rc]) (by simp [results, Tryz.results42, go_sem, m0, m1, m2]; done) rfl ⟨rfl, ?_⟩
    exact below_put3 hB2 (by omega) _ _ _

end Go.Proofs.YtlfghhmphgidjaaGreatDoor
