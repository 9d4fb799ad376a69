/-
  The law on DiagramSupport.
-/
import Derived.Test.YtmobcahfalaaeaaDgSi
import Derived.Test.YtmobcahfalaaeaaPgEq
import Derived.Deep.RegionWith
namespace Go.Proofs.Ytmobcahfalaaeaa
open Go.RowKit Num

noncomputable def dsN (L ro : Int) (n : Nat) (f : Nat → Int) : Nat := (dsL L ro n f).length
noncomputable def dsR (L ro : Int) (n : Nat) (f : Nat → Int) : Nat → Int := fun j => (dsL L ro n f).getD j 0

theorem specDsI_any (lo : Nat) (L ro : Int) (n c : Nat) (A0 : Option Addr) (f : Nat → Int) (w : World) (hn : n ≤ 1048576) (h0 : IntsAt lo w A0 (n * 3) f) :
    Calls Try.prog 31 #[dgV L A0 n c ro] w fun e w' => ∃ A1 c1, e = .returned (.tuple #[.slice A1 (dsN L ro n f) c1, .bool (vaB L ro n f)]) ∧ IntsAt w.heap.size w' A1 (dsN L ro n f) (dsR L ro n f) ∧ Below w.heap.size w w' :=
  specDs_any lo L ro n c A0 f w hn h0

theorem implDsI_any (lo : Nat) (L ro : Int) (n c : Nat) (A0 : Option Addr) (f : Nat → Int) (w : World) (hn : n ≤ 1048576) (h0 : IntsAt lo w A0 (n * 3) f) :
    Calls Try.prog 32 #[dgV L A0 n c ro] w fun e w' => ∃ A1 c1, e = .returned (.tuple #[.slice A1 (dsN L ro n f) c1, .bool (vaB L ro n f)]) ∧ IntsAt w.heap.size w' A1 (dsN L ro n f) (dsR L ro n f) ∧ Below w.heap.size w w' :=
  implDs_any lo L ro n c A0 f w hn h0

set_option maxRecDepth 100000 in
set_option maxHeartbeats 6400000 in
theorem lawSuDg_any (L r : Int) (A0 : Option Addr) (n c0 : Nat) (f : Nat → Int) (w : World) (hn : n ≤ 9223372036854775807) (h0 : IntsAt 0 w A0 (n * 3) f) :
    Calls Try.prog 9 #[dgV L A0 n c0 r] w fun e w' => e = .returned (.bool true) ∧ Below w.heap.size w w' := by
  have hP := Box.new w 32 #[.int .i64 L, .slice A0 n c0, .int .i64 r]
  have hB := (Below.refl w.heap.size w).alloc (Nat.le_refl _) (.cells #[.int .i64 L, .slice A0 n c0, .int .i64 r] 32)
  obtain ⟨q0, q1, q2⟩ := hP.trio
  have CZ1 : Hid (∀ W, _) := Lib.hid fun W => szDg_any L r A0 n c0 1048576 W hn (by omega) (by omega)
  have H := Lib.hid h0
  clear h0
  go_enter Try.func9, Try.ntmps9
  go_upto_region 5 with (first
    | (go_at_call 19
       with_reducible refine (CZ1.out _).mono ?_
       rintro e w1 ⟨⟨r1, rfl, hr1⟩, hb⟩
       clear q0 q1 q2
       replace hP := hP.below hb hP.lt
       replace hB := hB.trans (hb.mono hB.size)
       clear hb
       obtain ⟨q0, q1, q2⟩ := hP.trio))
  all_goals first
    | (go_ret
       exact ⟨rfl, hB⟩)
    | skip
  have SP : Hid (n ≤ 1048576) := Lib.hid (hr1.out.2 (by omega))
  have CP : Hid (∀ W, Below w.heap.size w W → _) := Lib.hid fun W hW => toDg_any 0 L r A0 n c0 f W SP.out (H.out.below hW (Nat.le_refl _))
  have CE : Hid (∀ (l1 l2 g1 k1 : Nat) (W : World), IntsAt l1 W (some ⟨g1, 0, none⟩) (n * 3) f → IntsAt l2 W (some ⟨k1, 0, none⟩) (n * 3) f → _) := Lib.hid fun l1 l2 g1 k1 W x y => eqDg_any l1 l2 L r (some ⟨g1, 0, none⟩) (some ⟨k1, 0, none⟩) n n n f W SP.out x y
  have CS : Hid (∀ (l g1 : Nat) (W : World), IntsAt l W (some ⟨g1, 0, none⟩) (n * 3) f → _) := Lib.hid fun l g1 W x => specDsI_any l L r n n (some ⟨g1, 0, none⟩) f W SP.out x
  have CM : Hid (∀ (l g1 : Nat) (W : World), IntsAt l W (some ⟨g1, 0, none⟩) (n * 3) f → _) := Lib.hid fun l g1 W x => implDsI_any l L r n n (some ⟨g1, 0, none⟩) f W SP.out x
  have hN : dsN L r n f ≤ 1048576 := dsL_le L r n f
  generalize dsN L r n f = N at CS CM hN
  generalize dsR L r n f = R at CS CM
  generalize vaB L r n f = ok at CS CM
  have n3 : (ok != ok) = false := by cases ok <;> rfl
  obtain ⟨M, hM⟩ : ∃ M, M = 1 + (N : Int) := ⟨_, rfl⟩
  have dM : decide (M < 0) = false := decide_eq_false (by omega)
  have nM : (M != M) = false := bne_self_eq_false _
  obtain ⟨K, hK⟩ : ∃ K, K = 1 + ((n * 3 : Nat) : Int) := ⟨_, rfl⟩
  have dK : decide (K < 0) = false := decide_eq_false (by omega)
  have CI : Hid (∀ (l1 l2 : Nat) (A B : Option Addr) (c d : Nat) (W : World), IntsAt l1 W A N R → IntsAt l2 W B N R → _) := Lib.hid fun l1 l2 A B c d W x y => eqIntS_any l1 l2 A B N c d R W hN x y
  have CO : Hid (∀ (l : Nat) (A : Option Addr) (c : Nat) (W : World), 0 < l → IntsAt l W A N R → _) := Lib.hid fun l A c W hz x => markOwn_any l A N c R W hN hz x
  have CH : Hid (∀ (l : Nat) (A : Option Addr) (c : Nat) (W : World), IntsAt l W A N (fun j => 1 + (j : Int)) → _) := Lib.hid fun l A c W x => heldInts_any l A N c W hN x
  have CD : Hid (∀ (l1 l2 : Nat) (A : Option Addr) (c : Nat) (W : World), ShI l1 l2 W A (n * 3) → _) := Lib.hid fun l1 l2 A c W x => markDg_any l1 l2 L r A n c W SP.out x
  rw [← hM] at CO CH
  rw [← hK] at CD
  clear hr1 H CZ1 SP hM hK
  go_upto_region 6 with (first
    | (go_at_call 21
       with_reducible refine (CP.out _ hB).mono ?_
       rintro e w2 ⟨⟨g1, rfl, hg⟩, hb⟩
       clear q0 q1 q2
       replace hP := hP.below hb hP.lt
       replace hB := hB.trans (hb.mono hB.size)
       clear hb
       obtain ⟨q0, q1, q2⟩ := hP.trio)
    | (go_at_call 31
       with_reducible refine (CS.out _ _ _ hg).mono ?_
       rintro e W0 ⟨A6, c6, rfl, hw0, hb⟩
       clear q0 q1 q2 hg
       replace hP := hP.below hb hP.lt
       replace hB := hB.trans (hb.mono hB.size)
       have HW0 := Lib.hid hw0
       clear hb hw0
       obtain ⟨q0, q1, q2⟩ := hP.trio))
  go_upto_region 7 with (first
    | (go_at_call 21
       with_reducible refine (CP.out _ hB).mono ?_
       rintro e w3 ⟨⟨g1, rfl, hg⟩, hb⟩
       clear q0 q1 q2
       have hL := hP.lt
       have hX := Box.new w3 24 #[.int .i64 L, .slice (some ⟨g1, 0, none⟩) n n, .int .i64 r]
       have hal := (Below.refl w3.heap.size w3).alloc (Nat.le_refl _) (.cells #[.int .i64 L, .slice (some ⟨g1, 0, none⟩) n n, .int .i64 r] 24)
       have HSH := Lib.hid (hg.sh (by omega) (Nat.le_refl w3.heap.size))
       have hB0 := hb
       have hl3 := hb.size
       have hB3 := hal
       replace hP := (hP.below hb hP.lt).alloc (.cells #[.int .i64 L, .slice (some ⟨g1, 0, none⟩) n n, .int .i64 r] 24)
       replace hg := hg.below hal (Nat.le_refl _)
       replace hB := hB.trans (hb.mono hB.size)
       replace hB := hB.trans (hal.mono hB.size)
       replace hB0 := hB0.trans (hal.mono hB0.size)
       clear hb hal
       obtain ⟨q0, q1, q2⟩ := hP.trio
       obtain ⟨x0, x1, x2⟩ := hX.trio))
  go_upto_region 10 with (first
    | (go_at_call 32
       with_reducible refine (CM.out _ _ _ hg).mono ?_
       rintro e w4 ⟨A9, c9, rfl, hg0, hb⟩
       obtain ⟨l9, hl9a, hl9b, hg0⟩ : ∃ l, w3.heap.size ≤ l ∧ l ≤ w4.heap.size ∧ IntsAt l w4 A9 N R := ⟨_, hB3.size, hb.size, hg0⟩
       clear q0 q1 q2 x0 x1 x2
       replace hP := hP.below hb hP.lt
       replace hX := hX.below hb hX.lt
       replace hg := hg.below hb (Nat.le_refl _)
       replace hB := hB.trans (hb.mono hB.size)
       replace hB0 := hB0.trans (hb.mono hB0.size)
       replace hB3 := hB3.trans (hb.mono hB3.size)
       clear hb
       obtain ⟨q0, q1, q2⟩ := hP.trio
       obtain ⟨x0, x1, x2⟩ := hX.trio)
    | (go_at_call 33
       refine (CI.out _ _ _ _ _ _ _ hg0 (HW0.out.below hB0 (Nat.le_refl _))).mono ?_
       rintro e w4 ⟨rfl, hb⟩
       replace hl9b := Nat.le_trans hl9b hb.size
       clear q0 q1 q2 x0 x1 x2
       replace hP := hP.below hb hP.lt
       replace hX := hX.below hb hX.lt
       replace hg := hg.below hb (Nat.le_refl _)
       replace hB := hB.trans (hb.mono hB.size)
       replace hB0 := hB0.trans (hb.mono hB0.size)
       replace hB3 := hB3.trans (hb.mono hB3.size)
       replace hg0 := hg0.below hb (Nat.le_refl _)
       clear hb
       obtain ⟨q0, q1, q2⟩ := hP.trio
       obtain ⟨x0, x1, x2⟩ := hX.trio))
  have HG0 := Lib.hid hg0
  clear hg0
  go_cut [45] (fun v wx => v = .bool false ∧ Below w4.heap.size w4 wx)
  case first =>
    have HB := Lib.hid hB
    have HG := Lib.hid hg
    have hxl := hX.lt
    have hbl := hP.lt
    clear hB hP hX hg hB0 hB3
    go_region_held3 (fun w' => w'.cell? ⟨w3.heap.size, 0, none⟩ = some (.int .i64 L) ∧ w'.cell? ⟨w3.heap.size, 1, none⟩ = some (.slice (some ⟨g1, 0, none⟩) n n) ∧ w'.cell? ⟨w3.heap.size, 2, none⟩ = some (.int .i64 r) ∧ w'.cell? ⟨w.heap.size, 0, none⟩ = some (.int .i64 L) ∧ w'.cell? ⟨w.heap.size, 1, none⟩ = some (.slice A0 n c0) ∧ w'.cell? ⟨w.heap.size, 2, none⟩ = some (.int .i64 r) ∧ Below w4.heap.size w4 w')
      ((suffices hBB : Below w4.heap.size w4 _ from ⟨(hBB.cell hxl).trans x0, (hBB.cell hxl).trans x1, (hBB.cell hxl).trans x2, (hBB.cell hbl).trans q0, (hBB.cell hbl).trans q1, (hBB.cell hbl).trans q2, hBB⟩; first | exact (Below.refl _ w4).drew | exact heldE3 (by assumption) | (refine stepB (heldE3 (by assumption)) ?_; assumption)))
      (first
        | (go_at_call 21; refine (CP.out _ (HB.out.trans ((heldE3 (by assumption)).mono HB.out.size))).mono ?_; rintro e w9 ⟨⟨m1, rfl, hm⟩, hb7⟩; have Hm := Lib.hid hm; clear hm)
        | (go_at_call 16; refine (CE.out _ _ _ _ _ (HG.out.below (heldE3 (by assumption)) (Nat.le_refl _)) Hm.out).mono ?_; rintro e w10 ⟨rfl, hb8⟩))
    all_goals go_wp2_with fail
    all_goals go_meet
    all_goals exact ⟨rfl, heldE3 (by assumption)⟩
  obtain ⟨rfl, hb⟩ := hcut
  rename World => wc
  clear q0 q1 q2 x0 x1 x2 hg
  replace hP := hP.below hb hP.lt
  replace hX := hX.below hb hX.lt
  replace hB := hB.trans (hb.mono hB.size)
  replace hB0 := hB0.trans (hb.mono hB0.size)
  replace hB3 := hB3.trans (hb.mono hB3.size)
  replace HG0 := Lib.hid (HG0.out.below hb (Nat.le_refl _))
  replace hl9b := Nat.le_trans hl9b hb.size
  clear hb
  obtain ⟨q0, q1, q2⟩ := hP.trio
  obtain ⟨x0, x1, x2⟩ := hX.trio
  have hz3 := hB3.size
  go_wp2_with (first
    | (go_at_call 17
       refine (CD.out W0.heap.size w3.heap.size _ _ _ (HSH.out.marks (.of_below (lo := 0) (hi := 0) hB3))).mono ?_
       rintro e w6 ⟨rfl, _, hm⟩
       have hs6 := hB0.size
       clear q0 q1 q2 x0 x1 x2 hX
       replace hP := hm.box hP (.inl hL)
       replace hB := hB.trans (hm.toBelow (Nat.le_of_lt hL) hs6)
       replace hB0 := hB0.trans (hm.toBelow (Nat.le_refl _) hs6)
       replace HG0 := Lib.hid (HG0.out.keep (hm.keeps.mono (by omega)))
       replace hl9b := Nat.le_trans hl9b hm.size
       clear hm hB3
       obtain ⟨q0, q1, q2⟩ := hP.trio)
    | (go_at_call 34
       refine (CO.out _ _ _ _ (by omega) HG0.out).mono ?_
       rintro e w8 ⟨rfl, hg8, hm⟩
       clear q0 q1 q2
       replace hP := hm.box hP (.inl (by omega))
       replace hB := hB.trans (hm.toBelow (by omega) (by omega))
       replace hB0 := hB0.trans (hm.toBelow (by omega) (by omega))
       have HG8 := Lib.hid hg8
       clear hg8 hm HG0
       obtain ⟨q0, q1, q2⟩ := hP.trio)
    | (go_at_call 35
       refine (CH.out _ _ _ _ HG8.out).mono ?_
       rintro e w9 ⟨rfl, rfl⟩)
    | (go_at_call 21
       with_reducible refine (CP.out _ hB).mono ?_
       rintro e w10 ⟨⟨h1, rfl, hk⟩, hb⟩
       clear q0 q1 q2
       replace hP := hP.below hb hP.lt
       replace hB := hB.trans (hb.mono hB.size)
       replace hB0 := hB0.trans (hb.mono hB0.size)
       replace HG8 := Lib.hid (HG8.out.below hb (Nat.le_refl _))
       clear hb
       obtain ⟨q0, q1, q2⟩ := hP.trio)
    | (go_at_call 32
       with_reducible refine (CM.out _ _ _ hk).mono ?_
       rintro e w11 ⟨A14, c14, rfl, hh0, hb⟩
       clear q0 q1 q2 hk
       replace hP := hP.below hb hP.lt
       replace hB := hB.trans (hb.mono hB.size)
       replace hB0 := hB0.trans (hb.mono hB0.size)
       replace HG8 := Lib.hid (HG8.out.below hb (Nat.le_refl _))
       clear hb
       obtain ⟨q0, q1, q2⟩ := hP.trio)
    | (go_at_call 33
       refine (CI.out _ _ _ _ _ _ _ hh0 (HW0.out.below hB0 (Nat.le_refl _))).mono ?_
       rintro e w12 ⟨rfl, hb⟩
       clear q0 q1 q2
       replace hP := hP.below hb hP.lt
       replace hB := hB.trans (hb.mono hB.size)
       replace hB0 := hB0.trans (hb.mono hB0.size)
       replace HG8 := Lib.hid (HG8.out.below hb (Nat.le_refl _))
       clear hb hh0
       obtain ⟨q0, q1, q2⟩ := hP.trio)
    | (go_at_call 33
       refine (CI.out _ _ _ _ _ _ _ HG0.out (HW0.out.below hB0 (Nat.le_refl _))).mono ?_
       rintro e w7 ⟨rfl, hb⟩
       clear q0 q1 q2
       replace hl9b := Nat.le_trans hl9b hb.size
       replace hP := hP.below hb hP.lt
       replace hB := hB.trans (hb.mono hB.size)
       replace hB0 := hB0.trans (hb.mono hB0.size)
       replace HG0 := Lib.hid (HG0.out.below hb (Nat.le_refl _))
       clear hb
       obtain ⟨q0, q1, q2⟩ := hP.trio))
  go_ret
  exact ⟨rfl, hB⟩

end Go.Proofs.Ytmobcahfalaaeaa
