/-
  The law on ConstantDiagram. (Written by gen_dglaw.py.)
-/
import Derived.Test.YtmobcahfalaaeaaDgC
import Derived.Deep.RegionWith
namespace Go.Proofs.Ytmobcahfalaaeaa
open Go.RowKit Num

set_option maxRecDepth 100000 in
set_option maxHeartbeats 6400000 in
theorem lawCoDg_any (m : Int) (b : Bool) (w : World) (_ : (Lit.int .i64 m).wf = true) :
    Calls Try.prog 3 #[.int .i64 m, .bool b] w fun e w' => e = .returned (.bool true) ∧ Below w.heap.size w w' := by
  have hB := Below.refl w.heap.size w
  have CS : Hid (∀ W, _) := Lib.hid fun W => specCo_any m b W 
  have CM : Hid (∀ W, _) := Lib.hid fun W => implCo_any m b W 
  have hN : (coN m b) ≤ 1048576 := coN_le m b
  generalize (coL m b) = L at CS CM
  generalize (coR m b) = r at CS CM
  generalize (coN m b) = N at CS CM hN
  generalize (coF m b) = F at CS CM
  generalize (coB m b) = ok at CS CM
  have n3 : (ok != ok) = false := by cases ok <;> rfl
  obtain ⟨M, hM⟩ : ∃ M, M = 1 + ((N * 3 : Nat) : Int) := ⟨_, rfl⟩
  have dM : decide (M < 0) = false := decide_eq_false (by omega)
  have nM : (M != M) = false := bne_self_eq_false _
  have CE : Hid (∀ (l1 l2 : Nat) (A B : Option Addr) (c d : Nat) (W : World), IntsAt l1 W A (N * 3) F → IntsAt l2 W B (N * 3) F → _) := Lib.hid fun l1 l2 A B c d W x y => eqDg_any l1 l2 L r A B N c d F W hN x y
  have CO : Hid (∀ (l1 l2 : Nat) (A : Option Addr) (c : Nat) (W : World), ShI l1 l2 W A (N * 3) → _) := Lib.hid fun l1 l2 A c W x => markDg_any l1 l2 L r A N c W hN x
  have CH : Hid (∀ (l : Nat) (A : Option Addr) (c : Nat) (W : World), IntsAt l W A (N * 3) (fun j => 1 + (j : Int)) → _) := Lib.hid fun l A c W x => heldDg_any l L r A N c W hN x
  rw [← hM] at CO CH
  clear hM
  go_enter Try.func3, Try.ntmps3
  go_upto_region 2 with (first
    | (go_at_call 14
       refine (CS.out _).mono ?_
       rintro e w1 ⟨A5, c5, rfl, hw0, hb⟩
       have HW := Lib.hid hw0
       have hw1 := hb.size
       have hX5 := Box.new w1 24 #[.int .i64 L, .slice A5 N c5, .int .i64 r]
       have hB0 := (Below.refl w1.heap.size w1).alloc (Nat.le_refl _) (.cells #[.int .i64 L, .slice A5 N c5, .int .i64 r] 24)
       replace hB := (hB.trans (hb.mono hB.size)).trans (hB0.mono (hB.trans (hb.mono hB.size)).size)
       clear hb hw0))
  have hl5 : w1.heap.size < (w1.alloc (.cells #[.int .i64 L, .slice A5 N c5, .int .i64 r] 24)).heap.size := hX5.lt
  go_upto_region 3 with (first
    | (go_at_call 15
       refine (CM.out _).mono ?_
       rintro e w3 ⟨A7, c7, rfl, hg0, hb⟩
       have HSH := Lib.hid (hg0.sh (by omega) (Nat.le_refl w3.heap.size))
       have hl3 := hb.size
       have hX7 := Box.new w3 24 #[.int .i64 L, .slice A7 N c7, .int .i64 r]
       have hal := (Below.refl w3.heap.size w3).alloc (Nat.le_refl _) (.cells #[.int .i64 L, .slice A7 N c7, .int .i64 r] 24)
       have hB3 := hal
       replace hX5 := (hX5.below hb hX5.lt).alloc (.cells #[.int .i64 L, .slice A7 N c7, .int .i64 r] 24)
       replace hB0 := (hB0.trans (hb.mono hB0.size)).trans (hal.mono (hB0.trans (hb.mono hB0.size)).size)
       replace hB := (hB.trans (hb.mono hB.size)).trans (hal.mono (hB.trans (hb.mono hB.size)).size)
       have HG := Lib.hid (hg0.below hal (Nat.le_refl _))
       clear hb hal hg0
       obtain ⟨x0, x1, x2⟩ := hX5.trio
       obtain ⟨y0, y1, y2⟩ := hX7.trio))
  generalize hlo : (w1.alloc (.cells #[.int .i64 L, .slice A5 N c5, .int .i64 r] 24)).heap.size = lo at hl5 hl3 HSH HG
  clear hlo
  generalize hw4 : (w3.alloc (.cells #[.int .i64 L, .slice A7 N c7, .int .i64 r] 24)) = w4 at hX5 hX7 hB0 hB3 hB HG x0 x1 x2 y0 y1 y2 ⊢
  clear hw4
  have hsz := hB0.size
  have hs7 := hX7.lt
  have HSC := Lib.hid (HSH.out.marks (.of_below (lo := 0) (hi := 0) hB3))
  have hF := HG
  clear HSH hB3
  go_upto_region 4 with (first
    | (go_at_call 16
       refine (CE.out _ _ _ _ _ _ _ HG.out (HW.out.below hB0 (Nat.le_refl _))).mono ?_
       rintro e w8 ⟨rfl, hb⟩
       clear x0 x1 x2 y0 y1 y2
       replace HSC := Lib.hid (HSC.out.marks (.of_below (lo := 0) (hi := 0) hb))
       replace hX5 := hX5.below hb hX5.lt
       replace hX7 := hX7.below hb hX7.lt
       replace hB := hB.trans (hb.mono hB.size)
       replace hB0 := hB0.trans (hb.mono hB0.size)
       replace hsz := Nat.le_trans hsz hb.size
       replace hs7 := Nat.lt_of_lt_of_le hs7 hb.size
       clear hb HG hF
       obtain ⟨x0, x1, x2⟩ := hX5.trio
       obtain ⟨y0, y1, y2⟩ := hX7.trio))
  go_upto_region 15 with (first
    | (go_at_call 16
       refine (CE.out _ _ _ _ _ _ _ HH.out (HW.out.below hB0 (Nat.le_refl _))).mono ?_
       rintro e w12 ⟨rfl, hb⟩
       clear x0 x1 x2 y0 y1 y2 z0 z1 z2
       replace HG := Lib.hid (HG.out.below hb (Nat.le_refl _))
       replace hX7 := hX7.below hb hX7.lt
       replace hB := hB.trans (hb.mono hB.size)
       clear hb hX5 hX11 hB0
       obtain ⟨y0, y1, y2⟩ := hX7.trio)
    | (go_at_call 17
       refine (CO.out _ _ _ _ _ HSC.out).mono ?_
       rintro e w6 ⟨rfl, hg8, hm⟩
       have HG := Lib.hid hg8
       clear hg8 x0 x1 x2 y0 y1 y2
       replace hX5 := hm.box hX5 (.inl hl5)
       replace hX7 := hm.box hX7 (.inr (Nat.le_refl _))
       replace hB := hB.trans (hm.toBelow (by omega) (by omega))
       replace hB0 := hB0.trans (hm.toBelow (by omega) (by omega))
       clear hm
       obtain ⟨x0, x1, x2⟩ := hX5.trio
       obtain ⟨y0, y1, y2⟩ := hX7.trio)
    | (go_at_call 18
       refine (CH.out _ _ _ _ HG.out).mono ?_
       rintro e w9 ⟨rfl, hb⟩
       clear x0 x1 x2 y0 y1 y2
       replace HG := Lib.hid (HG.out.below hb (Nat.le_refl _))
       replace hX5 := hX5.below hb hX5.lt
       replace hX7 := hX7.below hb hX7.lt
       replace hB := hB.trans (hb.mono hB.size)
       replace hB0 := hB0.trans (hb.mono hB0.size)
       clear hb
       obtain ⟨x0, x1, x2⟩ := hX5.trio
       obtain ⟨y0, y1, y2⟩ := hX7.trio)
    | (go_at_call 15
       refine (CM.out _).mono ?_
       rintro e w10 ⟨A11, c11, rfl, hh0, hb⟩
       have hX11 := Box.new w10 24 #[.int .i64 L, .slice A11 N c11, .int .i64 r]
       have hal := (Below.refl w10.heap.size w10).alloc (Nat.le_refl _) (.cells #[.int .i64 L, .slice A11 N c11, .int .i64 r] 24)
       clear x0 x1 x2 y0 y1 y2
       replace HG := Lib.hid ((HG.out.below hb (Nat.le_refl _)).below hal (Nat.le_refl _))
       replace hX5 := (hX5.below hb hX5.lt).alloc (.cells #[.int .i64 L, .slice A11 N c11, .int .i64 r] 24)
       replace hX7 := (hX7.below hb hX7.lt).alloc (.cells #[.int .i64 L, .slice A11 N c11, .int .i64 r] 24)
       replace hB0 := (hB0.trans (hb.mono hB0.size)).trans (hal.mono (hB0.trans (hb.mono hB0.size)).size)
       replace hB := (hB.trans (hb.mono hB.size)).trans (hal.mono (hB.trans (hb.mono hB.size)).size)
       have HH := Lib.hid (hh0.below hal (Nat.le_refl _))
       clear hb hal hh0
       obtain ⟨x0, x1, x2⟩ := hX5.trio
       obtain ⟨y0, y1, y2⟩ := hX7.trio
       obtain ⟨z0, z1, z2⟩ := hX11.trio))
  go_wp2_with (first
    | (go_at_call 18
       refine (CH.out _ _ _ _ HG.out).mono ?_
       rintro e w9 ⟨rfl, hb⟩
       replace hB := hB.trans (hb.mono hB.size)))
  go_ret
  exact ⟨rfl, hB⟩

end Go.Proofs.Ytmobcahfalaaeaa
