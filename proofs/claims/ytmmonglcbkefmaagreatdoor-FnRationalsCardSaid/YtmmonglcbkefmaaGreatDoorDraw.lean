/-
  The model's drawing functions of Rats: that they answer some Rat, whatever the code.
-/
import Derived.Test.YtmmonglcbkefmaaGreatDoorCur
import Derived.Test.YtmmonglcbkefmaaGreatDoorM2
import Derived.Test.YtmmonglcbkefmaaGreatDoorRatS
namespace Go.Proofs.YtmmonglcbkefmaaGreatDoor
open Go.RowKit Num

theorem ratRes_small (sg : Bool) (N D : Nat) : ∃ b x y c, ratRes sg N D = .tuple #[.agg #[.bool b, .string x, .string y], .bool c] ∧ x.size ≤ 120 ∧ y.size ≤ 120 := by
  unfold ratRes
  split
  · rename_i h
    simp only [fits, Bool.and_eq_true, decide_eq_true_eq] at h
    exact ⟨_, _, _, _, rfl, h.1, h.2⟩
  · exact ⟨_, _, _, _, rfl, Nat.zero_le _, Nat.zero_le _⟩

theorem ratOf_small (num den : Int) : ∃ b x y c, ratOf num den = .tuple #[.agg #[.bool b, .string x, .string y], .bool c] ∧ x.size ≤ 120 ∧ y.size ≤ 120 := ratRes_small _ _ _

set_option maxRecDepth 100000 in
set_option maxHeartbeats 800000 in
theorem rat_any (g m : Nat) (w : World) (hc : Cur w g m) (hm : m ≤ 1000000000) :
    Calls Tryz.prog 82 #[.pointer (some ⟨g, 0, none⟩)] w fun e w' => (∃ b x y, e = .returned (.agg #[.bool b, .string x, .string y]) ∧ x.size ≤ 120 ∧ y.size ≤ 120) ∧ Cur w' g (m + 2) ∧ But g w w' := by
  have hR := Box.new w 24 #[.bool false, .string ⟨#[]⟩, .string ⟨#[]⟩]
  have hal := (Below.refl w.heap.size w).alloc (Nat.le_refl _) (.cells #[.bool false, .string ⟨#[]⟩, .string ⟨#[]⟩] 24)
  have hb := But.of_below (g := g) hal
  have hc1 := hc.step hal
  have hgw := hc.lt
  have CP : Hid (∀ (m k : Nat) W, Cur W g m → m ≤ 1000000000000 → 1 ≤ k → k ≤ 200 → _) := Lib.hid fun m k W h1 h2 h3 h4 => cur_pick g m k W h1 h2 h3 h4
  clear hc hal
  go_enter Tryz.func82, Tryz.ntmps82
  go_wp2_with (first
    | (go_at_call 81; refine (CP.out (m + 1) 12 _ hc2 (by omega) (by omega) (by omega)).mono ?_; rintro e w2 ⟨⟨z2, rfl, hz2⟩, hc3, hb3⟩; have hb4 := hb2.trans hb3; replace hR := hR.but hb3 (by omega); have hr2 : IntKind.i64.wrap (1 + (z2 : Int)) = 1 + (z2 : Int) := IntWalk.i64_in _ (by omega))
    | (go_at_call 81; refine (CP.out m 25 _ hc1 (by omega) (by omega) (by omega)).mono ?_; rintro e w1 ⟨⟨z1, rfl, hz1⟩, hc2, hb1⟩; have hb2 := hb.trans hb1; replace hR := hR.but hb1 (by omega); have hr1 : IntKind.i64.wrap ((z1 : Int) - 6) = (z1 : Int) - 6 := IntWalk.i64_in _ (by omega))
    | (go_at_call 35; refine (specRatOf_any _ _ _ (by omega) (by omega) (by omega) (by omega) (by omega)).mono ?_; rintro e w3 ⟨he, hb5⟩; obtain ⟨rb, rx, ry, rc, hres, k1, k2⟩ := ratOf_small ((z1 : Int) - 6) (1 + (z2 : Int)); rw [hres] at he; subst he; replace hc3 := hc3.step hb5; have hb6 := hb4.step hb5; replace hR := hR.below hb5 hR.lt; have hX := Box.new w3 24 #[.bool rb, .string rx, .string ry]; have hal := (Below.refl w3.heap.size w3).alloc (Nat.le_refl _) (.cells #[.bool rb, .string rx, .string ry] 24); replace hc3 := hc3.step hal; replace hb6 := hb6.step hal; replace hR := hR.below hal hR.lt; obtain ⟨x0, x1, x2, _, _, _⟩ := hX.three; obtain ⟨z0, z1', z2', f0, f1, f2⟩ := hR.three))
  obtain ⟨m0, m1, m2⟩ := hR.put3 (.bool rb) (.string rx) (.string ry)
  refine bodyPost_ret (v := .agg #[.bool rb, .string rx, .string ry]) (by simp [results, Tryz.results82, go_sem, m0, m1, m2]; done) rfl ⟨⟨rb, rx, ry, rfl, k1, k2⟩, ?_, ?_⟩
  · exact hc3.put3 (by omega) _ _ _
  · exact hb6.put3 (Nat.le_refl _) _ _ _

/-- The six odd Rats. -/
def oddC : Array Value := #[.bool false, .string ⟨#[]⟩, .string ⟨#[]⟩, .bool false, .string ⟨#[50]⟩, .string ⟨#[52]⟩, .bool true, .string ⟨#[48]⟩, .string ⟨#[49]⟩, .bool false, .string ⟨#[49]⟩, .string ⟨#[48]⟩, .bool false, .string ⟨#[48]⟩, .string ⟨#[50]⟩, .bool false, .string ⟨#[48, 49]⟩, .string ⟨#[49]⟩]

theorem oddC_at (z : Nat) (hz : z < 6) : ∃ b x y, oddC.getD (z * 3) undef = .bool b ∧ oddC.getD (z * 3 + 1) undef = .string x ∧ oddC.getD (z * 3 + 2) undef = .string y ∧ x.size ≤ 2 ∧ y.size ≤ 2 := by
  match z, hz with
  | 0, _ => exact ⟨_, _, _, rfl, rfl, rfl, by decide, by decide⟩
  | 1, _ => exact ⟨_, _, _, rfl, rfl, rfl, by decide, by decide⟩
  | 2, _ => exact ⟨_, _, _, rfl, rfl, rfl, by decide, by decide⟩
  | 3, _ => exact ⟨_, _, _, rfl, rfl, rfl, by decide, by decide⟩
  | 4, _ => exact ⟨_, _, _, rfl, rfl, rfl, by decide, by decide⟩
  | 5, _ => exact ⟨_, _, _, rfl, rfl, rfl, by decide, by decide⟩

set_option maxRecDepth 100000 in
set_option maxHeartbeats 800000 in
theorem among3_any (g m : Nat) (w : World) (hc : Cur w g m) (hm : m ≤ 1000000000) :
    Calls Tryz.prog 88 #[.pointer (some ⟨g, 0, none⟩)] w fun e w' => (∃ b x y, e = .returned (.agg #[.bool b, .string x, .string y]) ∧ x.size ≤ 120 ∧ y.size ≤ 120) ∧ Cur w' g (m + 1) ∧ But g w w' := by
  have hR := (Box.new w 24 #[.bool false, .string ⟨#[]⟩, .string ⟨#[]⟩]).alloc (.cells oddC 24)
  have hL := Box.new (w.alloc (.cells #[.bool false, .string ⟨#[]⟩, .string ⟨#[]⟩] 24)) 24 oddC
  have hal := ((Below.refl w.heap.size w).alloc (Nat.le_refl _) (.cells #[.bool false, .string ⟨#[]⟩, .string ⟨#[]⟩] 24)).alloc (by simp) (.cells oddC 24)
  have e0 : ∀ (W : World) (o : Obj), (W.alloc o).heap.size = W.heap.size + 1 := fun W o => by simp
  rw [e0] at hL
  clear e0
  have hb := But.of_below (g := g) hal
  have hc1 := hc.step hal
  have hgw := hc.lt
  have CP : Hid (∀ (m k : Nat) W, Cur W g m → m ≤ 1000000000000 → 1 ≤ k → k ≤ 200 → _) := Lib.hid fun m k W h1 h2 h3 h4 => cur_pick g m k W h1 h2 h3 h4
  clear hc hal
  have ho : oddC.size = 18 := rfl
  go_enter Tryz.func88, Tryz.ntmps88
  go_wp2_with (go_at_call 81; refine (CP.out m 6 _ hc1 (by omega) (by omega) (by omega)).mono ?_; rintro e w1 ⟨⟨z, rfl, hz⟩, hc2, hb1⟩; have hb2 := hb.trans hb1; replace hR := hR.but hb1 (by omega); replace hL := hL.but hb1 (by omega); obtain ⟨q0, q1, q2, _, _, _⟩ := three_at hL (z * 3) (by omega); obtain ⟨rb, rx, ry, e0, e1, e2, k1, k2⟩ := oddC_at z hz; rw [e0] at q0; rw [e1] at q1; rw [e2] at q2; obtain ⟨z0, z1', z2', f0, f1, f2⟩ := hR.three; have g1 : (0 : Int) ≤ (z : Int) := (by omega); have g2 : (z : Int) < 6 := (by omega))
  obtain ⟨m0, m1, m2⟩ := hR.put3 (.bool rb) (.string rx) (.string ry)
  refine bodyPost_ret (v := .agg #[.bool rb, .string rx, .string ry]) (by simp [results, Tryz.results88, go_sem, m0, m1, m2]; done) rfl ⟨⟨rb, rx, ry, rfl, by omega, by omega⟩, ?_, ?_⟩
  · exact hc2.put3 (by omega) _ _ _
  · exact hb2.put3 (Nat.le_refl _) _ _ _

set_option maxRecDepth 100000 in
set_option maxHeartbeats 1600000 in
theorem spoilt_any (g m : Nat) (t wth : ByteArray) (w : World) (hc : Cur w g m) (hm : m ≤ 1000000000) (ht : t.size ≤ 150) (h1 : 1 ≤ wth.size) (h2 : wth.size ≤ 150) :
    Calls Tryz.prog 70 #[.pointer (some ⟨g, 0, none⟩), .string t, .string wth] w fun e w' => (∃ s, e = .returned (.string s) ∧ s.size ≤ t.size + 2) ∧ Cur w' g (m + 7) ∧ But g w w' := by
  have hgw := hc.lt
  have CP : Hid (∀ (m k : Nat) W, Cur W g m → m ≤ 1000000000000 → 1 ≤ k → k ≤ 200 → _) := Lib.hid fun m k W h1 h2 h3 h4 => cur_pick g m k W h1 h2 h3 h4
  go_enter Tryz.func70, Tryz.ntmps70
  go_wp2_with (go_at_call 81; refine (CP.out m 2 _ hc (by omega) (by omega) (by omega)).mono ?_; rintro e w1 ⟨⟨z, rfl, hz⟩, hc1, hb1⟩; have g1 : IntKind.i64.wrap (1 + (z : Int)) = ((z + 1 : Nat) : Int) := (by rw [IntWalk.i64_in _ (by omega)]; omega))
  go_loopg [1, 7] (z + 1) (fun q tv nv wr => ∃ s : ByteArray, tv = .string s ∧ nv = .int .i64 (q : Nat) ∧ q ≤ 2 ∧ s.size + q ≤ t.size + 2 ∧ Cur wr g (m + 7 - 3 * q) ∧ But g w wr)
  case atStart => exact ⟨t, rfl, rfl, by omega, by omega, hc1.more (by omega), hb1⟩
  case round =>
    obtain ⟨s, rfl, rfl, hq2, hsz, hcr, hbr⟩ := hrel
    clear hc1 hb1
    by_cases hq : gk = 0
    · subst hq
      go_wp2_with fail
      go_ret
      exact ⟨⟨s, rfl, by omega⟩, hcr, hbr⟩
    · have d1 : decide ((0 : Int) < (gk : Int)) = true := decide_eq_true (by omega)
      by_cases hs0 : s.size = 0
      · have d2 : decide ((0 : Int) < (s.size : Int)) = false := decide_eq_false (by omega)
        go_wp2_with fail
        go_ret
        exact ⟨⟨s, rfl, by omega⟩, hcr.more (by omega), hbr⟩
      · have d2 : decide ((0 : Int) < (s.size : Int)) = true := decide_eq_true (by omega)
        have hcv := conv_one
        go_upto_region 5 with (go_at_call 81; refine (CP.out (m + 7 - 3 * gk) s.size _ hcr (by omega) (by omega) (by omega)).mono ?_; rintro e w2 ⟨⟨z1, rfl, hz1⟩, hc2, hb2⟩; replace hb2 := hbr.trans hb2)
        go_upto_region 6 with (go_at_call 81; refine (CP.out (m + 7 - 3 * gk + 1) wth.size _ hc2 (by omega) (by omega) (by omega)).mono ?_; rintro e w3 ⟨⟨z2, rfl, hz2⟩, hc3, hb3⟩; replace hb3 := hb2.trans hb3; have g3 : (0 : Int) ≤ (z2 : Int) := (by omega); have g4 : (z2 : Int) < (wth.size : Int) := (by omega))
        have hal := (Below.refl w3.heap.size w3).alloc (Nat.le_refl _) (.cells #[.int .u8 ((wth[z2]).toNat : Nat)] 5)
        replace hc3 := hc3.step hal
        replace hb3 := hb3.step hal
        obtain ⟨B, hBd⟩ : ∃ B : ByteArray, B = ⟨#[UInt8.ofNat (((wth[z2]).toNat : Nat) : Int).toNat]⟩ := ⟨_, rfl⟩
        have hBs : B.size = 1 := by rw [hBd]; rfl
        clear hal hcv
        have n1 : IntKind.i64.wrap ((gk : Int) - 1) = ((gk - 1 : Nat) : Int) := by rw [IntWalk.i64_in _ (by omega)]; omega
        have n2 : IntKind.i64.wrap ((z1 : Int) + 1) = ((z1 + 1 : Nat) : Int) := by rw [IntWalk.i64_in _ (by omega)]; omega
        go_upto_region 8 with (go_at_call 81; refine (CP.out (m + 7 - 3 * gk + 2) 3 _ hc3 (by omega) (by omega) (by omega)).mono ?_; rintro e w4 ⟨⟨z3, rfl, hz3⟩, hc4, hb4⟩; replace hb4 := hb3.trans hb4)
        have i1 : (0 : Int) ≤ (z1 : Int) := by omega
        have i2 : (z1 : Int) ≤ (s.size : Int) := by omega
        have i3 : ((z1 + 1 : Nat) : Int) ≤ (s.size : Int) := by omega
        by_cases e0 : z3 = 0
        · subst e0
          go_upto_region 9 with fail
          have q1 : ¬ 9223372036854775807 < min z1 s.size + 1 := by omega
          go_quiet (fail)
          go_wp2_with fail
          go_roundg (gk - 1)
          case rel => exact ⟨_, rfl, by go_num, by omega, by rw [ByteArray.size_append, ByteArray.size_append, ByteArray.size_extract, ByteArray.size_extract]; show _ + 1 + _ + _ ≤ _; omega, (hc4.step (below_drewN _ (Below.refl _ w4))).more (by omega), hb4.drewN _⟩
          case measure => omega
        · by_cases e1 : z3 = 1
          · subst e1
            go_upto_region 11 with fail
            have q1 : ¬ 9223372036854775807 < min z1 s.size + 1 := by omega
            go_quiet (fail)
            go_wp2_with fail
            go_roundg (gk - 1)
            case rel => exact ⟨_, rfl, by go_num, by omega, by rw [ByteArray.size_append, ByteArray.size_append, ByteArray.size_extract, ByteArray.size_extract]; show _ + 1 + _ + _ ≤ _; omega, (hc4.step (below_drewN _ (Below.refl _ w4))).more (by omega), hb4.drewN _⟩
            case measure => omega
          · have b0 : ((z3 : Int) == 0) = false := by simp; omega
            have b1 : ((z3 : Int) == 1) = false := by simp; omega
            go_upto_region 7 with fail
            have q1 : ¬ 9223372036854775807 < min z1 s.size + (s.size - (z1 + 1)) := by omega
            go_quiet (fail)
            go_wp2_with fail
            go_roundg (gk - 1)
            case rel => exact ⟨_, rfl, by go_num, by omega, by rw [ByteArray.size_append, ByteArray.size_extract, ByteArray.size_extract]; omega, (hc4.step (below_drewN _ (Below.refl _ w4))).more (by omega), hb4.drewN _⟩
            case measure => omega

end Go.Proofs.YtmmonglcbkefmaaGreatDoor
