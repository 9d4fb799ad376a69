/-
  The model's drawing of any Rat, and of two.
-/
import Derived.Test.YtmmonglcbkefmaaGreatDoorDraw
namespace Go.Proofs.YtmmonglcbkefmaaGreatDoor
open Go.RowKit Num

theorem row_new {w : World} {g k : Nat} {t : TypeId} {cs : Array Value} {V : Nat → Value} (hg : g < w.heap.size) (hV : ∀ j, j < k → cs[j]? = some (V j)) : RowAt (w.alloc (.cells cs t)) w.heap.size 0 k g V :=
  ⟨by omega, by simp, fun j hj => by rw [(Box.new w t cs).cell, Nat.zero_add]; exact hV j hj⟩

abbrev intsA : Array Value := #[.int .i64 59, .int .i64 60, .int .i64 119, .int .i64 120]
abbrev intsB : Array Value := #[.int .i64 59, .int .i64 60, .int .i64 118, .int .i64 119]
def natA : Nat → Int | 0 => 59 | 1 => 60 | 2 => 119 | _ => 120
def natB : Nat → Int | 0 => 59 | 1 => 60 | 2 => 118 | _ => 119
theorem intsA_at (j : Nat) (hj : j < 4) : intsA[j]? = some (.int .i64 (natA j)) := by
  match j, hj with | 0, _ => rfl | 1, _ => rfl | 2, _ => rfl | 3, _ => rfl
theorem intsB_at (j : Nat) (hj : j < 4) : intsB[j]? = some (.int .i64 (natB j)) := by
  match j, hj with | 0, _ => rfl | 1, _ => rfl | 2, _ => rfl | 3, _ => rfl
theorem natA_at (j : Nat) : ∃ N : Nat, N ≤ 120 ∧ natA j = (N : Int) := by
  match j with | 0 => exact ⟨59, by omega, rfl⟩ | 1 => exact ⟨60, by omega, rfl⟩ | 2 => exact ⟨119, by omega, rfl⟩ | _ + 3 => exact ⟨120, by omega, rfl⟩
theorem natB_at (j : Nat) : ∃ N : Nat, N ≤ 120 ∧ natB j = (N : Int) := by
  match j with | 0 => exact ⟨59, by omega, rfl⟩ | 1 => exact ⟨60, by omega, rfl⟩ | 2 => exact ⟨118, by omega, rfl⟩ | _ + 3 => exact ⟨119, by omega, rfl⟩
abbrev strsA : Array Value := #[.string ⟨#[49]⟩, .string ⟨#[51]⟩, .string ⟨#[55]⟩, .string ⟨#[50, 49]⟩]
abbrev strsB : Array Value := #[.string ⟨#[49]⟩, .string ⟨#[50]⟩, .string ⟨#[53]⟩]
def strA : Nat → ByteArray | 0 => ⟨#[49]⟩ | 1 => ⟨#[51]⟩ | 2 => ⟨#[55]⟩ | _ => ⟨#[50, 49]⟩
def strB : Nat → ByteArray | 0 => ⟨#[49]⟩ | 1 => ⟨#[50]⟩ | _ => ⟨#[53]⟩
theorem strsA_at (j : Nat) (hj : j < 4) : strsA[j]? = some (.string (strA j)) := by
  match j, hj with | 0, _ => rfl | 1, _ => rfl | 2, _ => rfl | 3, _ => rfl
theorem strsB_at (j : Nat) (hj : j < 3) : strsB[j]? = some (.string (strB j)) := by
  match j, hj with | 0, _ => rfl | 1, _ => rfl | 2, _ => rfl
theorem strA_size (j : Nat) : (strA j).size ≤ 2 := by
  match j with | 0 => exact (by decide : (1 : Nat) ≤ 2) | 1 => exact (by decide : (1 : Nat) ≤ 2) | 2 => exact (by decide : (1 : Nat) ≤ 2) | _ + 3 => exact Nat.le_refl 2
theorem strB_size (j : Nat) : (strB j).size ≤ 2 := by
  match j with | 0 => exact (by decide : (1 : Nat) ≤ 2) | 1 => exact (by decide : (1 : Nat) ≤ 2) | _ + 2 => exact (by decide : (1 : Nat) ≤ 2)

/-- Some Rat. -/
def SomeRat (g m : Nat) (w : World) (e : Ending) (w' : World) : Prop := (∃ b x y, e = .returned (.agg #[.bool b, .string x, .string y]) ∧ x.size ≤ 130 ∧ y.size ≤ 130) ∧ Cur w' g (m + 20) ∧ But g w w'

set_option maxRecDepth 100000 in
set_option maxHeartbeats 1600000 in
theorem anyRat_any (g m : Nat) (w : World) (hc : Cur w g m) (hm : m ≤ 100000000) :
    Calls Tryz.prog 40 #[.pointer (some ⟨g, 0, none⟩)] w (SomeRat g m w) := by
  have hR := Box.new w 24 #[.bool false, .string ⟨#[]⟩, .string ⟨#[]⟩]
  have hal := (Below.refl w.heap.size w).alloc (Nat.le_refl _) (.cells #[.bool false, .string ⟨#[]⟩, .string ⟨#[]⟩] 24)
  have hb := But.of_below (g := g) hal
  have hc1 := hc.step hal
  have hgw := hc.lt
  have CP : Hid (∀ (m k : Nat) W, Cur W g m → m ≤ 1000000000000 → 1 ≤ k → k ≤ 200 → _) := Lib.hid fun m k W h1 h2 h3 h4 => cur_pick g m k W h1 h2 h3 h4
  have CO : Hid (∀ (m k : Nat) W, Cur W g m → m ≤ 1000000000000 → 1 ≤ k → k ≤ 200 → _) := Lib.hid fun m k W h1 h2 h3 h4 => cur_one g m k W h1 h2 h3 h4
  have CR : Hid (∀ (m : Nat) W, Cur W g m → m ≤ 1000000000 → _) := Lib.hid fun m W h1 h2 => rat_any g m W h1 h2
  have CT : Hid (∀ (m : Nat) W, Cur W g m → m ≤ 1000000000 → _) := Lib.hid fun m W h1 h2 => among3_any g m W h1 h2
  have CF : Hid (∀ (m b k : Nat) (F : Nat → ByteArray) W, Cur W g m → m ≤ 1000000000000 → 1 ≤ k → k ≤ 200 → RowAt W b 0 k g (fun j => .string (F j)) → _) := Lib.hid fun m b k F W h1 h2 h3 h4 h5 => cur_of g m b 0 k k F W h1 h2 h3 h4 h5
  clear hc hal
  go_enter Tryz.func40, Tryz.ntmps40
  go_upto_region 2 with (go_at_call 81; refine (CP.out m 12 _ hc1 (by omega) (by omega) (by omega)).mono ?_; rintro e w1 ⟨⟨z, rfl, hz⟩, hc2, hb1⟩; have hb2 := hb.trans hb1; replace hR := hR.but hb1 (by omega))
  clear hc1 hb hb1
  have hg1 : g < w1.heap.size := hc2.lt
  by_cases e0 : z = 0
  · subst e0
    have hal := (Below.refl w1.heap.size w1).alloc (Nat.le_refl _) (.cells intsA 3)
    have hc3 := hc2.step hal
    have hb3 := hb2.step hal
    have hR3 := hR.below hal hR.lt
    have CA : Hid (∀ (_ : Unit), _) := Lib.hid fun _ => cur_among g (m + 1) w1.heap.size 0 4 4 natA _ hc3 (by omega) (by omega) (by omega) (row_new hg1 intsA_at)
    go_wp2_with (go_at_call 60; refine (CA.out ()).mono ?_; rintro e w2 ⟨⟨j, hj, he⟩, hc4, hb4⟩; obtain ⟨N, hN1, hN2⟩ := natA_at j; rw [hN2] at he; subst he; replace hR3 := hR3.but hb4 (by omega); replace hb4 := hb3.trans hb4)
    clear hc3 hb3 CA hc2 hb2 hR
    go_loopg [3, 4] N (fun q sv nv wr => ∃ s : ByteArray, sv = .string s ∧ nv = .int .i64 (q : Nat) ∧ s.size + q ≤ 121 ∧ q ≤ 120 ∧ wr = w2)
    case atStart => exact ⟨_, rfl, rfl, by show 1 + N ≤ 121; omega, by omega, rfl⟩
    case round =>
      obtain ⟨s, rfl, rfl, hsz, hq2, rfl⟩ := hrel
      by_cases hq : gk = 0
      · subst hq
        go_upto_region 8 with fail
        go_wp2_with (first
          | (go_at_call 41; refine (CO.out (m + 2) 2 _ hc4 (by omega) (by omega) (by omega)).mono ?_; rintro e w3 ⟨⟨rb, rfl⟩, hc5, hb5⟩; have hR4 := hR3.but hb5 (by omega); have hb6 := hb4.trans hb5; have hal := (Below.refl w3.heap.size w3).alloc (Nat.le_refl _) (.cells strsA 9); have hc6 := hc5.step hal; have hb7 := hb6.step hal; have hR5 := hR4.below hal hR4.lt; have hrow := row_new (g := g) (t := 9) hc5.lt strsA_at; clear hal hc5 hb5 hb6 hR4)
          | (go_at_call 87; refine (CF.out (m + 3) _ 4 strA _ hc6 (by omega) (by omega) (by omega) hrow).mono ?_; rintro e w4 ⟨⟨j', hj', rfl⟩, hc7, hb8⟩; have hR6 := hR5.but hb8 (by omega); have hb9 := hb7.trans hb8; obtain ⟨z0, z1', z2', f0, f1, f2⟩ := hR6.three))
        obtain ⟨m0, m1, m2⟩ := hR6.put3 (.bool rb) (.string s) (.string (strA j'))
        have hst := strA_size j'
        refine bodyPost_ret (v := .agg #[.bool rb, .string s, .string (strA j')]) (by simp [results, Tryz.results40, go_sem, m0, m1, m2]; done) rfl ⟨⟨rb, s, strA j', rfl, by omega, by omega⟩, ?_, ?_⟩
        · exact (hc7.put3 (by omega) _ _ _).more (by omega)
        · exact hb9.put3 (Nat.le_refl _) _ _ _
      · have d1 : decide ((0 : Int) < (gk : Int)) = true := decide_eq_true (by omega)
        have q1 : ¬ 9223372036854775807 < s.size + 1 := by omega
        have n1 : IntKind.i64.wrap ((gk : Int) - 1) = ((gk - 1 : Nat) : Int) := by rw [IntWalk.i64_in _ (by omega)]; omega
        go_wp2_with fail
        go_roundg (gk - 1)
        case rel => exact ⟨_, rfl, by go_num, by rw [ByteArray.size_append]; show s.size + 1 + _ ≤ _; omega, by omega, rfl⟩
        case measure => omega
  · have b0 : ((z : Int) == 0) = false := by simp; omega
    by_cases e1 : z = 1
    · subst e1
      have hal := (Below.refl w1.heap.size w1).alloc (Nat.le_refl _) (.cells intsB 3)
      have hc3 := hc2.step hal
      have hb3 := hb2.step hal
      have hR3 := hR.below hal hR.lt
      have CA : Hid (∀ (_ : Unit), _) := Lib.hid fun _ => cur_among g (m + 1) w1.heap.size 0 4 4 natB _ hc3 (by omega) (by omega) (by omega) (row_new hg1 intsB_at)
      go_wp2_with (go_at_call 60; refine (CA.out ()).mono ?_; rintro e w2 ⟨⟨j, hj, he⟩, hc4, hb4⟩; obtain ⟨N, hN1, hN2⟩ := natB_at j; rw [hN2] at he; subst he; replace hR3 := hR3.but hb4 (by omega); replace hb4 := hb3.trans hb4)
      clear hc3 hb3 CA hc2 hb2 hR
      go_loopg [5, 6] N (fun q sv nv wr => ∃ s : ByteArray, sv = .string s ∧ nv = .int .i64 (q : Nat) ∧ s.size + q ≤ 121 ∧ q ≤ 120 ∧ wr = w2)
      case atStart => exact ⟨_, rfl, rfl, by show 1 + N ≤ 121; omega, by omega, rfl⟩
      case round =>
        obtain ⟨s, rfl, rfl, hsz, hq2, rfl⟩ := hrel
        by_cases hq : gk = 0
        · subst hq
          go_upto_region 15 with fail
          have hal := (Below.refl wr.heap.size wr).alloc (Nat.le_refl _) (.cells strsB 9)
          have hc6 := hc4.step hal
          have hb7 := hb4.step hal
          have hR5 := hR3.below hal hR3.lt
          have hrow := row_new (g := g) (t := 9) hc4.lt strsB_at
          go_wp2_with (go_at_call 87; refine (CF.out (m + 2) _ 3 strB _ hc6 (by omega) (by omega) (by omega) hrow).mono ?_; rintro e w4 ⟨⟨j', hj', rfl⟩, hc7, hb8⟩; have hR6 := hR5.but hb8 (by omega); have hb9 := hb7.trans hb8; obtain ⟨z0, z1', z2', f0, f1, f2⟩ := hR6.three)
          obtain ⟨m0, m1, m2⟩ := hR6.put3 (.bool false) (.string (strB j')) (.string s)
          have hst := strB_size j'
          refine bodyPost_ret (v := .agg #[.bool false, .string (strB j'), .string s]) (by simp [results, Tryz.results40, go_sem, m0, m1, m2]; done) rfl ⟨⟨false, strB j', s, rfl, by omega, by omega⟩, ?_, ?_⟩
          · exact (hc7.put3 (by omega) _ _ _).more (by omega)
          · exact hb9.put3 (Nat.le_refl _) _ _ _
        · have d1 : decide ((0 : Int) < (gk : Int)) = true := decide_eq_true (by omega)
          have q1 : ¬ 9223372036854775807 < s.size + 1 := by omega
          have n1 : IntKind.i64.wrap ((gk : Int) - 1) = ((gk - 1 : Nat) : Int) := by rw [IntWalk.i64_in _ (by omega)]; omega
          go_wp2_with fail
          go_roundg (gk - 1)
          case rel => exact ⟨_, rfl, by go_num, by rw [ByteArray.size_append]; show s.size + 1 + _ ≤ _; omega, by omega, rfl⟩
          case measure => omega
    · have b1 : ((z : Int) == 1) = false := by simp; omega
      by_cases e2 : z = 2
      · subst e2
        go_wp2_with (first
          | (go_at_call 82; refine (CR.out (m + 1) _ hc2 (by omega)).mono ?_; rintro e w2 ⟨⟨rb, rx, ry, rfl, k1, k2⟩, hc3, hb3⟩; have hR3 := hR.but hb3 (by omega); have hb4 := hb2.trans hb3; have hX := Box.new w2 24 #[.bool rb, .string rx, .string ry]; have hal := (Below.refl w2.heap.size w2).alloc (Nat.le_refl _) (.cells #[.bool rb, .string rx, .string ry] 24); have hc4 := hc3.step hal; have hb5 := hb4.step hal; have hR4 := hR3.below hal hR3.lt; have hg2 := hc3.lt; have hRX := hR3.lt; clear hc3 hb3 hb4 hR3; obtain ⟨x0, x1, x2, u0, u1, u2⟩ := hX.three)
          | (go_at_call 70; refine (spoilt_any g (m + 3) rx ⟨#[48, 49, 50, 51, 45]⟩ _ hc4 (by omega) (by omega) (by decide) (by decide)).mono ?_; rintro e w3 ⟨⟨s, rfl, hs⟩, hc5, hb6⟩; have hX2 := hX.but hb6 (by omega); have hR5 := hR4.but hb6 (by omega); have hb7 := hb5.trans hb6; obtain ⟨y0, y1, y2, v0, v1, v2⟩ := hX2.three; obtain ⟨z0, z1', z2', f0, f1, f2⟩ := hR5.three))
        have hR6 : Box (w3.setCell ⟨w2.heap.size, 1, none⟩ (.string s)) w.heap.size 24 #[.bool false, .string ⟨#[]⟩, .string ⟨#[]⟩] := (Below.heap_setCell _ _ _ _ (by show w.heap.size ≠ w2.heap.size; omega)).trans hR5
        obtain ⟨m0, m1, m2⟩ := hR6.put3 (.bool rb) (.string s) (.string ry)
        refine bodyPost_ret (v := .agg #[.bool rb, .string s, .string ry]) (by simp [results, Tryz.results40, go_sem, m0, m1, m2]; done) rfl ⟨⟨rb, s, ry, rfl, by omega, by omega⟩, ?_, ?_⟩
        · exact ((hc5.far (by omega)).put3 (by omega) _ _ _).more (by omega)
        · exact (hb7.new (by omega) 1 _).put3 (Nat.le_refl _) _ _ _
      · have b2 : ((z : Int) == 2) = false := by simp; omega
        by_cases e3 : z = 3
        · subst e3
          go_wp2_with (go_at_call 88; refine (CT.out (m + 1) _ hc2 (by omega)).mono ?_; rintro e w2 ⟨⟨rb, rx, ry, rfl, k1, k2⟩, hc3, hb3⟩; have hR3 := hR.but hb3 (by omega); have hb4 := hb2.trans hb3; have hg2 := hc3.lt; obtain ⟨z0, z1', z2', f0, f1, f2⟩ := hR3.three)
          obtain ⟨m0, m1, m2⟩ := hR3.put3 (.bool rb) (.string rx) (.string ry)
          refine bodyPost_ret (v := .agg #[.bool rb, .string rx, .string ry]) (by simp [results, Tryz.results40, go_sem, m0, m1, m2]; done) rfl ⟨⟨rb, rx, ry, rfl, by omega, by omega⟩, ?_, ?_⟩
          · exact (hc3.put3 (by omega) _ _ _).more (by omega)
          · exact hb4.put3 (Nat.le_refl _) _ _ _
        · have b3 : ((z : Int) == 3) = false := by simp; omega
          go_wp2_with (go_at_call 82; refine (CR.out (m + 1) _ hc2 (by omega)).mono ?_; rintro e w2 ⟨⟨rb, rx, ry, rfl, k1, k2⟩, hc3, hb3⟩; have hR3 := hR.but hb3 (by omega); have hb4 := hb2.trans hb3; have hg2 := hc3.lt; obtain ⟨z0, z1', z2', f0, f1, f2⟩ := hR3.three)
          obtain ⟨m0, m1, m2⟩ := hR3.put3 (.bool rb) (.string rx) (.string ry)
          refine bodyPost_ret (v := .agg #[.bool rb, .string rx, .string ry]) (by simp [results, Tryz.results40, go_sem, m0, m1, m2]; done) rfl ⟨⟨rb, rx, ry, rfl, by omega, by omega⟩, ?_, ?_⟩
          · exact (hc3.put3 (by omega) _ _ _).more (by omega)
          · exact hb4.put3 (Nat.le_refl _) _ _ _

end Go.Proofs.YtmmonglcbkefmaaGreatDoor
