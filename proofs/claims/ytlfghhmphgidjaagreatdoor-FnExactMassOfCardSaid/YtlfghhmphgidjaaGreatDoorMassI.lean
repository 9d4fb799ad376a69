/-
  The program's MassOf, and the law on it.
-/
import Derived.Test.YtlfghhmphgidjaaGreatDoorDistS
import Derived.Test.YtlfghhmphgidjaaGreatDoorMeas
import Derived.Test.YtlfghhmphgidjaaGreatDoorDecAll
namespace Go.Proofs.YtlfghhmphgidjaaGreatDoor
open Go.RowKit Num

set_option maxRecDepth 100000 in
set_option maxHeartbeats 3200000 in
theorem implMass_any (A0 : Option Addr) (n cap : Nat) (F : Nat → Int × Bool × ByteArray × ByteArray) (w : World) (hn : n ≤ 1048576) (hA : PtAt w A0 n F) (hs : ∀ j, j < n → (F j).2.2.1.size ≤ 9223372036854775807 ∧ (F j).2.2.2.size ≤ 9223372036854775807) (hU : UnitB w) (hT : Tab64 w) (hP : TabP w) :
    Calls Tryz.prog 19 #[.agg #[.slice A0 n cap]] w fun e w' => e = .returned (massRes F n) ∧ Below w.heap.size w w' := by
  have CM : Hid (∀ W, Below w.heap.size w W → _) := Lib.hid fun W hW => meas_any A0 n cap F W hn (hA.below hW (Nat.le_refl _)) hs (hU.below hW) (hT.below hW)
  have hR := Box.new (w.alloc (.cells #[.slice A0 n cap] 32)) 27 #[.bool false, .string ⟨#[]⟩, .string ⟨#[]⟩]
  rw [show (w.alloc (.cells #[.slice A0 n cap] 32)).heap.size = w.heap.size + 1 by simp] at hR
  have hB := ((Below.refl w.heap.size w).alloc (Nat.le_refl _) (.cells #[.slice A0 n cap] 32)).alloc (by simp) (.cells #[.bool false, .string ⟨#[]⟩, .string ⟨#[]⟩] 27)
  have hd0 := ((Box.new w 32 #[.slice A0 n cap]).alloc (.cells #[.bool false, .string ⟨#[]⟩, .string ⟨#[]⟩] 27)).cell 0
  have HP := Lib.hid hP
  unfold massRes
  cases hv : distOk F n with
  | false =>
    have HV := Lib.hid hv
    clear hv hA hs hU hT hP
    rw [if_neg (by decide)]
    go_enter Tryz.func19, Tryz.ntmps19
    go_wp2_with (go_at_call 65; refine (CM.out _ hB).mono ?_; rintro e w1 ⟨he, hb1⟩; rw [if_neg (by rw [HV.out]; decide)] at he; subst he; unfold noMeas; have hR1 := (hR.below hb1 hR.lt).alloc (.cells #[.slice none 0 0, .slice none 0 0, .bool false, .slice none 0 0, .slice none 0 0] 87); have hB1 := (hB.trans (hb1.mono hB.size)).alloc (hB.trans (hb1.mono hB.size)).size (.cells #[.slice none 0 0, .slice none 0 0, .bool false, .slice none 0 0, .slice none 0 0] 87); obtain ⟨z0, z1, z2, f0, f1, f2⟩ := hR1.three)
    obtain ⟨m0, m1, m2⟩ := hR1.put3 (.bool false) (.string ⟨#[]⟩) (.string ⟨#[]⟩)
    refine bodyPost_ret (v := noRat) (by simp [results, Tryz.results19, go_sem, noRat, m0, m1, m2]; done) rfl ⟨rfl, ?_⟩
    exact below_put3 hB1 (by omega) _ _ _
  | true =>
    rw [if_pos rfl]
    have HV := Lib.hid hv
    have hpos := total_pos (distOk_parts hv).2.1
    obtain ⟨⟨sg, N, D⟩, ho⟩ : ∃ o, o = total F n := ⟨_, rfl⟩
    rw [← ho] at hpos ⊢
    simp only at hpos ⊢
    subst hpos
    have Ho := Lib.hid ho
    have CR : Hid (∀ (u1 u2 : Value) W, Below w.heap.size w W → Nums 143 .u64 WB W u1 N → Nums 143 .u64 WB W u2 D → _) := Lib.hid fun u1 u2 W hW g1 g2 => ratF_all false u1 u2 N D W (staysP.below _ _ HP.out hW) g1 g2
    obtain ⟨rb, rx, ry, rc, hres⟩ := ratRes_shape false N D
    rw [hres] at CR ⊢
    clear hv hA hs hU hT hP hres ho
    go_enter Tryz.func19, Tryz.ntmps19
    go_upto_region 4 with (go_at_call 65; refine (CM.out _ hB).mono ?_; rintro e w1 ⟨he, hb1⟩; rw [if_pos HV.out, ← Ho.out] at he; obtain ⟨A1, c1, A2, c2, A3, l3, c3, A4, l4, c4, rfl, _, _, _, _, gn, gd⟩ := he; simp only at gn gd)
    have hal := (Below.refl w1.heap.size w1).alloc (Nat.le_refl _) (.cells #[.slice A1 n c1, .slice A2 n c2, .bool false, .slice A3 l3 c3, .slice A4 l4 c4] 87)
    have hM := Box.new w1 87 #[.slice A1 n c1, .slice A2 n c2, .bool false, .slice A3 l3 c3, .slice A4 l4 c4]
    have hR1 := (hR.below hb1 hR.lt).below hal (Nat.lt_of_lt_of_le hR.lt hb1.size)
    have hB1 := (hB.trans (hb1.mono hB.size)).trans (hal.mono (hB.trans (hb1.mono hB.size)).size)
    replace gn := gn.below hal (Nat.le_refl _)
    replace gd := gd.below hal (Nat.le_refl _)
    obtain ⟨⟨y0, y1, y2, y3, y4⟩, _⟩ := hM.five
    go_wp2_with (go_at_call 66; refine (CR.out _ _ _ hB1 gn gd).mono ?_; rintro e w2 ⟨rfl, hb2⟩; have hR2 := hR1.below hb2 hR1.lt; have hB2 := hB1.trans (hb2.mono hB1.size); obtain ⟨z0, z1, z2, f0, f1, f2⟩ := hR2.three)
    obtain ⟨m0, m1, m2⟩ := hR2.put3 (.bool rb) (.string rx) (.string ry)
    refine bodyPost_ret (v := .tuple #[.agg #[.bool rb, .string rx, .string ry], .bool rc]) (by simp [results, Tryz.results19, go_sem, m0, m1, m2]; done) rfl ⟨rfl, ?_⟩
    exact below_put3 hB2 (by omega) _ _ _

theorem massRes_shape (F : Nat → Int × Bool × ByteArray × ByteArray) (n : Nat) : ∃ rb rx ry rc, massRes F n = .tuple #[.agg #[.bool rb, .string rx, .string ry], .bool rc] := by
  unfold massRes
  split
  · exact ratRes_shape _ _ _
  · exact ⟨false, ⟨#[]⟩, ⟨#[]⟩, false, rfl⟩

end Go.Proofs.YtlfghhmphgidjaaGreatDoor
