/-
  The program's steps of Lehmer's algorithm on the leading bits of two numbers.
-/
import Derived.Test.YtbcckgofoknmbaaDoorPureM
import Derived.Test.YtbcckgofoknmbaaDoorPWord
namespace Go.Proofs.YtbcckgofoknmbaaDoor
open Go.RowKit Num

section
variable {w w' : World} {g : Nat} {t : TypeId} {a b c d e : Value}
theorem Box.five (h : Box w g t #[a, b, c, d, e]) : (w.cell? ⟨g, 0, none⟩ = some a ∧ w.cell? ⟨g, 1, none⟩ = some b ∧ w.cell? ⟨g, 2, none⟩ = some c ∧ w.cell? ⟨g, 3, none⟩ = some d ∧ w.cell? ⟨g, 4, none⟩ = some e) ∧ (w.frozen? ⟨g, 0, none⟩ = false ∧ w.frozen? ⟨g, 1, none⟩ = false ∧ w.frozen? ⟨g, 2, none⟩ = false ∧ w.frozen? ⟨g, 3, none⟩ = false ∧ w.frozen? ⟨g, 4, none⟩ = false) :=
  ⟨⟨h.cell 0, h.cell 1, h.cell 2, h.cell 3, h.cell 4⟩, h.free 0, h.free 1, h.free 2, h.free 3, h.free 4⟩
theorem Box.put5 (h : Box w g t #[a, b, c, d, e]) (p q r s u : Value) :
    Box (((((w.setCell ⟨g, 0, none⟩ p).setCell ⟨g, 1, none⟩ q).setCell ⟨g, 2, none⟩ r).setCell ⟨g, 3, none⟩ s).setCell ⟨g, 4, none⟩ u) g t #[p, q, r, s, u] :=
  ((((h.set 0 p).set 1 q).set 2 r).set 3 s).set 4 u
theorem below_put5 {B : Nat} {w0 : World} (hb : Below B w0 w) (hg : B ≤ g) (p q r s u : Value) :
    Below B w0 (((((w.setCell ⟨g, 0, none⟩ p).setCell ⟨g, 1, none⟩ q).setCell ⟨g, 2, none⟩ r).setCell ⟨g, 3, none⟩ s).setCell ⟨g, 4, none⟩ u) :=
  ((((hb.setCell (p := ⟨g, 0, none⟩) hg p).setCell (p := ⟨g, 1, none⟩) hg q).setCell (p := ⟨g, 2, none⟩) hg r).setCell (p := ⟨g, 3, none⟩) hg s).setCell (p := ⟨g, 4, none⟩) hg u
end

set_option maxRecDepth 100000 in
set_option maxHeartbeats 3200000 in
theorem lead_any (ga oa ca gb ob cb n m : Nat) (xs ys : List Nat) (w : World) (hm : n = m + 2) (hn : n ≤ 1099511627776) (ha : RowW 64 w ga oa xs) (hb : RowW 64 w gb ob ys)
    (hxl : xs.length = n) (hyl : ys.length = n) (hxd : Dig WB xs) (hyd : Dig WB ys) (hle : val WB ys ≤ val WB xs) (htop : WB ^ (n - 1) ≤ val WB xs) :
    Calls Tryd.prog 56 #[.slice (some ⟨ga, oa, none⟩) n ca, .slice (some ⟨gb, ob, none⟩) n cb] w fun e w' =>
      (∃ (u0 v0 u1 v1 : Nat) (neg : Bool), e = .returned (.agg #[.int .u64 (u0 : Nat), .int .u64 (v0 : Nat), .int .u64 (u1 : Nat), .int .u64 (v1 : Nat), .bool neg]) ∧ u0 < WB ∧ v0 < WB ∧ u1 < WB ∧ v1 < WB ∧ (v0 ≠ 0 → LehmOut (val WB xs) (val WB ys) neg u0 v0 u1 v1)) ∧ Below w.heap.size w w' := by
  have h2 := WB_two
  obtain ⟨A', hA⟩ : ∃ A, A = val WB xs := ⟨_, rfl⟩
  obtain ⟨B', hB⟩ : ∃ B, B = val WB ys := ⟨_, rfl⟩
  have hAb : A' < WB ^ (m + 2) := by rw [hA, ← hm, ← hxl]; exact val_lt WB xs hxd
  have hBb : B' < WB ^ (m + 2) := by rw [hB, ← hm, ← hyl]; exact val_lt WB ys hyd
  rw [← hA, ← hB] at hle ⊢
  rw [← hA] at htop
  have xg : ∀ j, xs.getD j 0 = dg WB A' j := fun j => by rw [getD_val WB xs hxd, hA, dg_eq WB h2]
  have yg : ∀ j, ys.getD j 0 = dg WB B' j := fun j => by rw [getD_val WB ys hyd, hB, dg_eq WB h2]
  obtain ⟨a1, ha1⟩ : ∃ a, a = dg WB A' (m + 1) := ⟨_, rfl⟩
  obtain ⟨a0, ha0⟩ : ∃ a, a = dg WB A' m := ⟨_, rfl⟩
  obtain ⟨b1, hb1⟩ : ∃ a, a = dg WB B' (m + 1) := ⟨_, rfl⟩
  obtain ⟨b0, hb0⟩ : ∃ a, a = dg WB B' m := ⟨_, rfl⟩
  have a1b : a1 < 18446744073709551616 := by rw [ha1]; exact dg_lt _ _ _ h2
  have a0b : a0 < 18446744073709551616 := by rw [ha0]; exact dg_lt _ _ _ h2
  have b1b : b1 < 18446744073709551616 := by rw [hb1]; exact dg_lt _ _ _ h2
  have b0b : b0 < 18446744073709551616 := by rw [hb0]; exact dg_lt _ _ _ h2
  have eA1 := div_top WB A' (m + 1) h2 hAb
  have eB1 := div_top WB B' (m + 1) h2 hBb
  have eA2 := div_two WB A' m h2 hAb
  have eB2 := div_two WB B' m h2 hBb
  rw [← ha1] at eA1; rw [← hb1] at eB1
  rw [← ha1, ← ha0] at eA2; rw [← hb1, ← hb0] at eB2
  have hba : b1 ≤ a1 := by rw [← eA1, ← eB1]; exact Nat.div_le_div_right hle
  have ha10 : a1 ≠ 0 := by
    have : 0 < A' / WB ^ (m + 1) := Nat.div_pos (by rw [show m + 1 = n - 1 from by omega]; exact htop) (Nat.pow_pos (by omega))
    omega
  obtain ⟨s, hs⟩ : ∃ s, s = lz a1 := ⟨_, rfl⟩
  obtain ⟨hs1, hs2, hs3⟩ := lz_spec a1 ha10 a1b
  rw [← hs] at hs1 hs2 hs3
  have C1 : Hid (∀ W, Calls Tryd.prog 76 #[.int .u64 a1] W fun e w' => e = .returned (.int .i64 (s : Nat)) ∧ W = w') := Lib.hid fun W => by rw [hs]; exact lz64 a1 a1b W
  obtain ⟨Q, hQ⟩ : ∃ Q, Q = 2 ^ (64 - s) := ⟨_, rfl⟩
  have hQ0 : 0 < Q := by rw [hQ]; exact Nat.pow_pos (by omega)
  obtain ⟨x0, hx0⟩ : ∃ x, x = (a1 * 18446744073709551616 + a0) / 2 ^ (64 - s) := ⟨_, rfl⟩
  obtain ⟨y0, hy0⟩ : ∃ x, x = (b1 * 18446744073709551616 + b0) / 2 ^ (64 - s) := ⟨_, rfl⟩
  have hb2 : b1 * 2 ^ s < 18446744073709551616 := Nat.lt_of_le_of_lt (Nat.mul_le_mul_right _ hba) hs2
  have lx := lead_bits hs1 hs2 a0b
  have ly := lead_bits hs1 hb2 b0b
  rw [← hx0] at lx
  rw [← hy0] at ly
  have hx0W : x0 = A' / (WB ^ m * Q) := by
    rw [hx0, ← Nat.div_div_eq_div_mul, eA2, hQ]; rfl
  have hy0W : y0 = B' / (WB ^ m * Q) := by
    rw [hy0, ← Nat.div_div_eq_div_mul, eB2, hQ]; rfl
  have hW0 : 0 < WB ^ m * Q := Nat.mul_pos (Nat.pow_pos (by omega)) hQ0
  have hyx : y0 ≤ x0 := by rw [hx0W, hy0W]; exact Nat.div_le_div_right hle
  obtain ⟨H, hH⟩ : ∃ H, H = a1 * 2 ^ s := ⟨_, rfl⟩
  obtain ⟨L, hL⟩ : ∃ L, L = a0 / 2 ^ (64 - s) := ⟨_, rfl⟩
  obtain ⟨H', hH'⟩ : ∃ H, H = b1 * 2 ^ s := ⟨_, rfl⟩
  obtain ⟨L', hL'⟩ : ∃ L, L = b0 / 2 ^ (64 - s) := ⟨_, rfl⟩
  rw [← hH, ← hL] at lx
  rw [← hH', ← hL'] at ly
  have hLb : L < 18446744073709551616 := by rw [hL]; exact Nat.lt_of_le_of_lt (Nat.div_le_self _ _) a0b
  have hLb' : L' < 18446744073709551616 := by rw [hL']; exact Nat.lt_of_le_of_lt (Nat.div_le_self _ _) b0b
  have kH : IntKind.u64.wrap ((a1 : Int) * 2 ^ s) = (H : Int) := by
    have e : ((a1 : Int) * 2 ^ s) = (H : Int) := by rw [hH]; simp
    rw [e, IntWalk.u64_in _ (by omega)]
  have kH' : IntKind.u64.wrap ((b1 : Int) * 2 ^ s) = (H' : Int) := by
    have e : ((b1 : Int) * 2 ^ s) = (H' : Int) := by rw [hH']; simp
    rw [e, IntWalk.u64_in _ (by omega)]
  have kL : (a0 : Int) / 2 ^ (64 - s) = (L : Int) := by rw [hL]; simp
  have kL' : (b0 : Int) / 2 ^ (64 - s) = (L' : Int) := by rw [hL']; simp
  have kx : bits BinOp.or IntKind.u64 (H : Int) (L : Int) = (x0 : Int) := by rw [bits_or_u64_nat H L (by omega) hLb, lx]
  have ky : bits BinOp.or IntKind.u64 (H' : Int) (L' : Int) = (y0 : Int) := by rw [bits_or_u64_nat H' L' (by omega) hLb', ly]
  have hx64 : x0 < 18446744073709551616 := by rw [← lx]; exact Nat.or_lt_two_pow (n := 64) (by omega) hLb
  have hx1 : 1 ≤ x0 := by
    rw [hx0, Nat.le_div_iff_mul_le (Nat.pow_pos (by omega)), Nat.one_mul]
    have : (2 : Nat) ^ (64 - s) ≤ 2 ^ 64 := Nat.pow_le_pow_right (by omega) (by omega)
    omega
  have hcA1 : w.cell? ⟨ga, oa + (n - 1), none⟩ = some (.int .u64 (a1 : Nat)) := by rw [ha1, ← xg, show m + 1 = n - 1 from by omega]; exact ha.cell (by omega)
  have hcA0 : w.cell? ⟨ga, oa + (n - 2), none⟩ = some (.int .u64 (a0 : Nat)) := by rw [ha0, ← xg, show m = n - 2 from by omega]; exact ha.cell (by omega)
  have hcB1 : w.cell? ⟨gb, ob + (n - 1), none⟩ = some (.int .u64 (b1 : Nat)) := by rw [hb1, ← yg, show m + 1 = n - 1 from by omega]; exact hb.cell (by omega)
  have hcB0 : w.cell? ⟨gb, ob + (n - 2), none⟩ = some (.int .u64 (b0 : Nat)) := by rw [hb0, ← yg, show m = n - 2 from by omega]; exact hb.cell (by omega)
  have hga := ha.lt
  have hgb := hb.lt
  have hn2 : 2 ≤ n := by omega
  have HAt := Lib.hid (LehmAt.start A' B' x0 y0 hyx hx1)
  have hstep : ∀ neg x y u0 v0 u1 v1 u v, LehmAt A' B' x0 y0 neg x y u0 v0 u1 v1 u v → v ≤ y → v1 + v ≤ x - y → LehmAt A' B' x0 y0 (!neg) y (x % y) u1 v1 u v (u1 + x / y * u) (v1 + x / y * v) :=
    fun _ _ _ _ _ _ _ _ _ h c1 c2 => h.step hW0 hx0W hy0W c1 c2
  have HStep := Lib.hid hstep; clear hstep
  have Hx64 := Lib.hid hx64
  clear hm ha hb hxl hyl hxd hyd hle htop hA hB hAb hBb xg yg ha1 ha0 hb1 hb0 a1b a0b b1b b0b eA1 eB1 eA2 eB2 hba ha10 hs hs2 hs3 hQ hQ0 hx0 hy0 hb2 lx ly hx0W hy0W hW0 hyx hH hL hH' hL' hLb hLb' hx1 hx64
  have ks : IntKind.i64.wrap (64 - (s : Int)) = 64 - (s : Int) := IntWalk.i64_in _ (by omega)
  go_enter Tryd.func56, Tryd.ntmps56
  go_wp2_with (go_at_call 76; refine (C1.out _).mono ?_; rintro e w' ⟨rfl, rfl⟩)
  go_quiet (fail)
  go_wp2_with fail
  go_quiet (fail)
  go_wp2_with fail
  go_loopw [7, 8, 10, 11] (fun xv yv uv vv wr => ∃ (x y u0 v0 u1 v1 u v : Nat) (neg : Bool), xv = .int .u64 (x : Nat) ∧ yv = .int .u64 (y : Nat) ∧ uv = .int .u64 (u : Nat) ∧ vv = .int .u64 (v : Nat) ∧ LehmAt A' B' x0 y0 neg x y u0 v0 u1 v1 u v ∧ (x < WB ∧ u0 < WB ∧ v0 < WB ∧ u1 < WB ∧ v1 < WB) ∧
      Box wr (w.heap.size + 1) 89 #[.int .u64 (u0 : Nat), .int .u64 (v0 : Nat), .int .u64 (u1 : Nat), .int .u64 (v1 : Nat), .bool neg] ∧ Box wr w.heap.size 89 #[.int .u64 0, .int .u64 0, .int .u64 0, .int .u64 0, .bool false] ∧ Below w.heap.size w wr) (fun _ yv _ _ _ => (intOf yv).toNat)
  case atStart =>
    refine ⟨x0, y0, 0, 0, 1, 0, 0, 1, true, rfl, rfl, rfl, rfl, HAt.out, ⟨Hx64.out, by omega, by omega, by omega, by omega⟩, ?_, ?_, ?_⟩
    · have hz : ∀ k : Nat, (((w.alloc (Obj.cells #[Value.int IntKind.u64 0, Value.int IntKind.u64 0, Value.int IntKind.u64 0, Value.int IntKind.u64 0, Value.bool false] 89)).drewN k)).heap.size = w.heap.size + 1 := fun k => by show (w.alloc _).heap.size = _; simp
      rw [← hz]
      exact Box.new _ _ _
    · exact (Box.new w _ _).alloc _
    · exact (below_drewN _ ((Below.refl _ w).alloc (Nat.le_refl _) _)).alloc (by simp) _
  case round =>
    clear HAt
    obtain ⟨x, y, u0, v0, u1, v1, u, v, neg, rfl, rfl, rfl, rfl, hat, hbd, hbox, hres, hbel⟩ := hrel
    have hf := hat.facts
    have Hat := Lib.hid hat; clear hat
    have Hbd := Lib.hid hbd; clear hbd
    have Hbel := Lib.hid hbel; clear hbel
    obtain ⟨⟨c0, c1, c2, c3, c4⟩, f0, f1, f2, f3, f4⟩ := hbox.five
    obtain ⟨⟨r0, r1, r2, r3, r4⟩, g0, g1, g2, g3, g4⟩ := hres.five
    have Hbox := Lib.hid hbox; clear hbox
    have Hres := Lib.hid hres; clear hres
    have hx64 := Hx64.out
    by_cases hc1 : v ≤ y
    · obtain ⟨e, he⟩ : ∃ e, e = x - y := ⟨_, rfl⟩
      obtain ⟨t, ht⟩ : ∃ t, t = v1 + v := ⟨_, rfl⟩
      have hxb := Hbd.out.1
      unfold WB at hxb
      have ke : IntKind.u64.wrap ((x : Int) - (y : Int)) = (e : Int) := by rw [IntWalk.u64_in _ (by omega)]; omega
      have kt : IntKind.u64.wrap ((v1 : Int) + (v : Int)) = (t : Int) := by have := hf.2.2.2.2 (by omega); rw [IntWalk.u64_in _ (by omega)]; omega
      by_cases hc2 : t ≤ e
      · have hnew := HStep.out _ _ _ _ _ _ _ _ _ Hat.out hc1 (by omega)
        have hnf := hnew.facts
        obtain ⟨q, hq⟩ : ∃ q, q = x / y := ⟨_, rfl⟩
        obtain ⟨z, hz⟩ : ∃ z, z = x % y := ⟨_, rfl⟩
        obtain ⟨p1, hp1⟩ : ∃ p, p = q * u := ⟨_, rfl⟩
        obtain ⟨p2, hp2⟩ : ∃ p, p = q * v := ⟨_, rfl⟩
        rw [← hq, ← hz, ← hp1, ← hp2] at hnew
        rw [← hq, ← hz, ← hp1, ← hp2] at hnf
        obtain ⟨u', hu'⟩ : ∃ u', u' = u1 + p1 := ⟨_, rfl⟩
        obtain ⟨v', hv'⟩ : ∃ v', v' = v1 + p2 := ⟨_, rfl⟩
        rw [← hu', ← hv'] at hnew hnf
        have hzy : z < y := by rw [hz]; exact Nat.mod_lt _ (by omega)
        have hy0 : ¬ y = 0 := by omega
        have kq : (x : Int) / (y : Int) = (q : Int) := by rw [hq]; simp
        have kz : (x : Int) % (y : Int) = (z : Int) := by rw [hz]; simp
        have kqw : IntKind.u64.wrap (q : Int) = (q : Int) := IntWalk.u64_in _ (by have := Nat.div_le_self x y; omega)
        have kp1 : IntKind.u64.wrap ((q : Int) * (u : Int)) = (p1 : Int) := by rw [show ((q : Int) * (u : Int)) = (p1 : Int) by rw [hp1]; simp, IntWalk.u64_in _ (by omega)]
        have kp2 : IntKind.u64.wrap ((q : Int) * (v : Int)) = (p2 : Int) := by rw [show ((q : Int) * (v : Int)) = (p2 : Int) by rw [hp2]; simp, IntWalk.u64_in _ (by omega)]
        have ku : IntKind.u64.wrap ((u1 : Int) + (p1 : Int)) = (u' : Int) := by rw [IntWalk.u64_in _ (by omega)]; omega
        have kv : IntKind.u64.wrap ((v1 : Int) + (p2 : Int)) = (v' : Int) := by rw [IntWalk.u64_in _ (by omega)]; omega
        have Hnew := Lib.hid hnew
        have Hbd2 : Hid (y < WB ∧ u1 < WB ∧ v1 < WB ∧ u < WB ∧ v < WB) := Lib.hid ⟨by unfold WB; omega, Hbd.out.2.2.2.1, Hbd.out.2.2.2.2, by unfold WB; omega, by unfold WB; omega⟩
        have Hzy := Lib.hid hzy
        clear hnew hnf hq hz hp1 hp2 hu' hv' hzy he ht hxb hf
        have Hx64' := Lib.hid hx64; clear hx64
        go_wp2_with fail
        go_quiet (fail)
        have hb5 := fun k : Nat => (show Box (wr.drewN k) (w.heap.size + 1) 89 _ from Hbox.out).put5 (.int .u64 (u1 : Nat)) (.int .u64 (v1 : Nat)) (.int .u64 (u : Nat)) (.int .u64 (v : Nat)) (.bool !neg)
        have hl5 := fun k : Nat => below_put5 (g := w.heap.size + 1) (below_drewN k Hbel.out) (Nat.le_succ _) (.int .u64 (u1 : Nat)) (.int .u64 (v1 : Nat)) (.int .u64 (u : Nat)) (.int .u64 (v : Nat)) (.bool !neg)
        have hr5 : ∀ W : World, W.heap[w.heap.size]? = wr.heap[w.heap.size]? → Box W w.heap.size 89 #[.int .u64 0, .int .u64 0, .int .u64 0, .int .u64 0, .bool false] := fun W hW => hW.trans Hres.out
        have d0 := fun k => (hb5 k).five.1.1
        have d1 := fun k => (hb5 k).five.1.2.1
        have Hb5 := Lib.hid hb5; clear hb5
        have Hl5 := Lib.hid hl5; clear hl5
        have Hr5 := Lib.hid hr5; clear hr5
        go_wp2_with fail
        go_quiet (fail)
        go_wp2_with fail
        go_roundw
        case rel =>
          refine ⟨y, z, u1, v1, u, v, u', v', !neg, rfl, by rw [kz], ?_, ?_, Hnew.out, Hbd2.out, Hb5.out _, ?_, below_drewN _ (Hl5.out _)⟩
          · first | rfl | rw [kp1, ku]
          · first | rfl | rw [kp2, kv]
          · refine Hr5.out _ ?_
            show (World.setCell _ _ _).heap[_]? = _
            rw [Below.heap_setCell _ _ _ _ (by simp), Below.heap_setCell _ _ _ _ (by simp), Below.heap_setCell _ _ _ _ (by simp), Below.heap_setCell _ _ _ _ (by simp), Below.heap_setCell _ _ _ _ (by simp)]
            rfl
        case measure => have := Hzy.out; rw [kz]; simp [intOf]; omega
      · have hres := fun h0 => LehmAt.result Hat.out h0
        have Hout := Lib.hid hres; clear hres
        clear he ht hxb hf
        have Hx64' := Lib.hid hx64; clear hx64
        go_wp2_with fail
        obtain ⟨⟨k0, k1, k2, k3, k4⟩, _⟩ := (Hres.out.put5 (.int .u64 (u0 : Nat)) (.int .u64 (v0 : Nat)) (.int .u64 (u1 : Nat)) (.int .u64 (v1 : Nat)) (.bool neg)).five
        refine bodyPost_ret (v := .agg #[.int .u64 (u0 : Nat), .int .u64 (v0 : Nat), .int .u64 (u1 : Nat), .int .u64 (v1 : Nat), .bool neg]) (by simp [results, Tryd.results56, go_sem, k0, k1, k2, k3, k4]; done) rfl ?_
        exact ⟨⟨u0, v0, u1, v1, neg, rfl, Hbd.out.2.1, Hbd.out.2.2.1, Hbd.out.2.2.2.1, Hbd.out.2.2.2.2, Hout.out⟩, below_put5 Hbel.out (Nat.le_refl _) _ _ _ _ _⟩
    · have hres := fun h0 => LehmAt.result Hat.out h0
      have Hout := Lib.hid hres; clear hres
      clear hf
      have Hx64' := Lib.hid hx64; clear hx64
      go_wp2_with fail
      obtain ⟨⟨k0, k1, k2, k3, k4⟩, _⟩ := (Hres.out.put5 (.int .u64 (u0 : Nat)) (.int .u64 (v0 : Nat)) (.int .u64 (u1 : Nat)) (.int .u64 (v1 : Nat)) (.bool neg)).five
      refine bodyPost_ret (v := .agg #[.int .u64 (u0 : Nat), .int .u64 (v0 : Nat), .int .u64 (u1 : Nat), .int .u64 (v1 : Nat), .bool neg]) (by simp [results, Tryd.results56, go_sem, k0, k1, k2, k3, k4]; done) rfl ?_
      exact ⟨⟨u0, v0, u1, v1, neg, rfl, Hbd.out.2.1, Hbd.out.2.2.1, Hbd.out.2.2.2.1, Hbd.out.2.2.2.2, Hout.out⟩, below_put5 Hbel.out (Nat.le_refl _) _ _ _ _ _⟩

end Go.Proofs.YtbcckgofoknmbaaDoor
