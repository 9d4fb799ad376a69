/-
  Several texts in one: RatS, Draw, DrawA, DrawB, DrawD.
-/
import Derived.Test.YtlfghhmphgidjaaGreatDoorFracLaw
import Derived.Test.YtlfghhmphgidjaaGreatDoorEqRat
import Derived.Laws.MakeOwn
import Derived.Deep.LoopGhost
import Derived.Deep.DeepCutAuto
import Derived.Deep.RegionHeld3
import Derived.Test.YtlfghhmphgidjaaGreatDoorCur
import Derived.Test.YtlfghhmphgidjaaGreatDoorM2
/-
  Lists of Rats: the law's copies, comparisons and sizes of them.
-/
namespace Go.Proofs.YtlfghhmphgidjaaGreatDoor
open Go.RowKit Num

/-- The three cells of a Rat. -/
def ratC (r : Bool × ByteArray × ByteArray) : Nat → Value
  | 0 => .bool r.1
  | 1 => .string r.2.1
  | _ => .string r.2.2

/-- n Rats stand in a row from the address on. -/
def RatAt (w : World) (A : Option Addr) (n : Nat) (F : Nat → Bool × ByteArray × ByteArray) : Prop :=
  0 < n → ∃ b off, A = some ⟨b, off, none⟩ ∧ b < w.heap.size ∧ ∀ j, j < n → ∀ c, c < 3 → w.cell? ⟨b, off + (j * 3 + c), none⟩ = some (ratC (F j) c)

theorem RatAt.below {B : Nat} {w w' : World} {A : Option Addr} {n : Nat} {F : Nat → Bool × ByteArray × ByteArray} (h : RatAt w A n F) (hb : Below B w w') (hB : w.heap.size ≤ B) : RatAt w' A n F := fun h0 => by
  obtain ⟨b, off, rfl, h1, h2⟩ := h h0
  exact ⟨b, off, rfl, Nat.lt_of_lt_of_le h1 hb.size, fun j hj c hc => (hb.cell (p := ⟨b, off + (j * 3 + c), none⟩) (Nat.lt_of_lt_of_le h1 hB)).trans (h2 j hj c hc)⟩

theorem RatAt.at_ {w : World} {A : Option Addr} {n : Nat} {F : Nat → Bool × ByteArray × ByteArray} (h : RatAt w A n F) {j : Nat} (hj : j < n) :
    ∃ b off, A = some ⟨b, off, none⟩ ∧ b < w.heap.size ∧ w.cell? ⟨b, off + j * 3, none⟩ = some (.bool (F j).1) ∧ w.cell? ⟨b, off + j * 3 + 1, none⟩ = some (.string (F j).2.1) ∧ w.cell? ⟨b, off + j * 3 + 2, none⟩ = some (.string (F j).2.2) := by
  obtain ⟨b, off, rfl, h1, h2⟩ := h (by omega)
  exact ⟨b, off, rfl, h1, h2 j hj 0 (by omega), h2 j hj 1 (by omega), h2 j hj 2 (by omega)⟩

theorem RatAt.cells {w : World} {b off n : Nat} {F : Nat → Bool × ByteArray × ByteArray} (h : RatAt w (some ⟨b, off, none⟩) n F) {j : Nat} (hj : j < n) :
    w.cell? ⟨b, off + j * 3, none⟩ = some (.bool (F j).1) ∧ w.cell? ⟨b, off + j * 3 + 1, none⟩ = some (.string (F j).2.1) ∧ w.cell? ⟨b, off + j * 3 + 2, none⟩ = some (.string (F j).2.2) := by
  obtain ⟨b', off', he, _, h0, h1, h2⟩ := h.at_ hj
  injection he with he
  injection he with e1 e2 _
  subst e1 e2
  exact ⟨h0, h1, h2⟩

theorem Tryz.infoRat : (Tryz.prog.info? 27).map (fun i => (i.zero, i.size, i.bytes)) = some (some (.agg #[.bool false, .string ⟨#[]⟩, .string ⟨#[]⟩]), 3, 40) := by kernel_rfl

theorem mk_rat (n : Nat) (hn : n ≤ 1048576) (w : World) :
    (Instr.makeSlice 215 (.int .i64 (n : Int)) (.int .i64 (n : Int))).run Tryz.prog w = .ok (.slice (some ⟨w.heap.size, 0, none⟩) n n) (w.alloc (.cells (madeCells #[.bool false, .string ⟨#[]⟩, .string ⟨#[]⟩] (n * 3)) 27)) := by
  obtain ⟨i, hi, hzz⟩ := Option.map_eq_some_iff.1 Tryz.infoRat
  simp only [Prod.mk.injEq] at hzz
  obtain ⟨hz, hs, hb⟩ := hzz
  have hr := run_make (P := Tryz.prog) w 215 27 i _ Tryz.underlying215 hi hz .i64 .i64 n n (by omega) (Int.le_refl _) (by rw [hb]; omega) (by omega)
  simp only [Int.toNat_natCast, hs, Value.cells] at hr
  exact hr

theorem three_at {w : World} {g : Nat} {t : TypeId} {cs : Array Value} (h : Box w g t cs) (i : Nat) (hi : i + 3 ≤ cs.size) :
    w.cell? ⟨g, i, none⟩ = some (cs.getD i undef) ∧ w.cell? ⟨g, i + 1, none⟩ = some (cs.getD (i + 1) undef) ∧ w.cell? ⟨g, i + 2, none⟩ = some (cs.getD (i + 2) undef) ∧
    w.frozen? ⟨g, i, none⟩ = false ∧ w.frozen? ⟨g, i + 1, none⟩ = false ∧ w.frozen? ⟨g, i + 2, none⟩ = false := by
  refine ⟨?_, ?_, ?_, h.free _, h.free _, h.free _⟩
  all_goals rw [h.cell, Array.getD, dif_pos (by omega), Array.getElem?_eq_getElem (by omega)]; rfl

theorem fill3 (k n : Nat) (cs : Array Value) (F : Nat → Nat → Value) (hcs : cs.size = n * 3) (hk : k < n) (h : ∀ j, j < k → ∀ c, c < 3 → cs[j * 3 + c]? = some (F j c)) :
    ∀ j, j < k + 1 → ∀ c, c < 3 → (((cs.setIfInBounds (k * 3) (F k 0)).setIfInBounds (k * 3 + 1) (F k 1)).setIfInBounds (k * 3 + 2) (F k 2))[j * 3 + c]? = some (F j c) := by
  intro j hj c hc
  simp only [Array.getElem?_setIfInBounds, Array.size_setIfInBounds]
  by_cases hjk : j < k
  · rw [if_neg (by omega), if_neg (by omega), if_neg (by omega)]
    exact h j hjk c hc
  · obtain rfl : j = k := by omega
    match c, hc with
    | 0, _ => rw [if_neg (by omega), if_neg (by omega), if_pos (by omega), if_pos (by omega)]
    | 1, _ => rw [if_neg (by omega), if_pos (by omega), if_pos (by omega)]
    | 2, _ => rw [if_pos (by omega), if_pos (by omega)]

theorem hold6R {W w' : World} {b off b' off' n j : Nat} {F : Nat → Bool × ByteArray × ByteArray} (h : RatAt W (some ⟨b, off, none⟩) n F) (k : RatAt W (some ⟨b', off', none⟩) n F) (hj : j < n) (hb : Below W.heap.size W w') :
    w'.cell? ⟨b, off + j * 3, none⟩ = some (.bool (F j).1) ∧ w'.cell? ⟨b, off + j * 3 + 1, none⟩ = some (.string (F j).2.1) ∧ w'.cell? ⟨b, off + j * 3 + 2, none⟩ = some (.string (F j).2.2) ∧
    w'.cell? ⟨b', off' + j * 3, none⟩ = some (.bool (F j).1) ∧ w'.cell? ⟨b', off' + j * 3 + 1, none⟩ = some (.string (F j).2.1) ∧ w'.cell? ⟨b', off' + j * 3 + 2, none⟩ = some (.string (F j).2.2) ∧ Below W.heap.size W w' := by
  obtain ⟨h0, h1, h2⟩ := (h.below hb (Nat.le_refl _)).cells hj
  obtain ⟨k0, k1, k2⟩ := (k.below hb (Nat.le_refl _)).cells hj
  exact ⟨h0, h1, h2, k0, k1, k2, hb⟩
theorem hold6R_below {W w' : World} {p1 p2 p3 p4 p5 p6 : Prop} (h : p1 ∧ p2 ∧ p3 ∧ p4 ∧ p5 ∧ p6 ∧ Below W.heap.size W w') : Below W.heap.size W w' := h.2.2.2.2.2.2
theorem step6R {W w1 w2 : World} (h : Below W.heap.size W w1) (k : Below w1.heap.size w1 w2) : Below W.heap.size W w2 := h.trans (k.mono h.size)

end Go.Proofs.YtlfghhmphgidjaaGreatDoor
/-
  The model's drawing functions of Rats: that they answer some Rat, whatever the code.
-/
namespace Go.Proofs.YtlfghhmphgidjaaGreatDoor
open Go.RowKit Num

theorem ratRes_small (sg : Bool) (N D : Nat) : ∃ b x y c, ratRes sg N D = .tuple #[.agg #[.bool b, .string x, .string y], .bool c] ∧ x.size ≤ 120 ∧ y.size ≤ 120 := by
  unfold ratRes
  split
  · rename_i h
    simp only [fits, Bool.and_eq_true, decide_eq_true_eq] at h
    exact ⟨_, _, _, _, rfl, h.1, h.2⟩
  · exact ⟨_, _, _, _, rfl, Nat.zero_le _, Nat.zero_le _⟩

theorem decL_two (N : Nat) (h : N ≤ 99) : (decL N).length ≤ 2 := by
  by_cases h1 : N < 10
  · rw [decL_small N h1]; simp
  · rw [decL_step N (by omega), decL_small (N / 10) (by omega)]; simp

theorem ratRes_tiny (sg : Bool) (N D : Nat) (hN : N ≤ 99) (hD : D ≤ 99) : ∃ b x y c, ratRes sg N D = .tuple #[.agg #[.bool b, .string x, .string y], .bool c] ∧ x.size ≤ 2 ∧ y.size ≤ 2 := by
  unfold ratRes
  split
  · exact ⟨_, _, _, _, rfl, by rw [dec_size]; exact decL_two N hN, by rw [dec_size]; exact decL_two D hD⟩
  · exact ⟨_, _, _, _, rfl, Nat.zero_le _, Nat.zero_le _⟩

theorem ratOf_tiny (num den : Int) (h1 : num.natAbs ≤ 99) (h2 : den.natAbs ≤ 99) : ∃ b x y c, ratOf num den = .tuple #[.agg #[.bool b, .string x, .string y], .bool c] ∧ x.size ≤ 2 ∧ y.size ≤ 2 :=
  ratRes_tiny _ _ _ (Nat.le_trans (Nat.div_le_self _ _) h1) (Nat.le_trans (Nat.div_le_self _ _) h2)

set_option maxRecDepth 100000 in
set_option maxHeartbeats 800000 in
theorem rat_any (g m : Nat) (w : World) (hc : Cur w g m) (hm : m ≤ 1000000000) :
    Calls Tryz.prog 154 #[.pointer (some ⟨g, 0, none⟩)] w fun e w' => (∃ b x y, e = .returned (.agg #[.bool b, .string x, .string y]) ∧ x.size ≤ 2 ∧ y.size ≤ 2) ∧ Cur w' g (m + 2) ∧ But g w w' := by
  have hR := Box.new w 27 #[.bool false, .string ⟨#[]⟩, .string ⟨#[]⟩]
  have hal := (Below.refl w.heap.size w).alloc (Nat.le_refl _) (.cells #[.bool false, .string ⟨#[]⟩, .string ⟨#[]⟩] 27)
  have hb := But.of_below (g := g) hal
  have hc1 := hc.step hal
  have hgw := hc.lt
  have CP : Hid (∀ (m k : Nat) W, Cur W g m → m ≤ 1000000000000 → 1 ≤ k → k ≤ 200 → _) := Lib.hid fun m k W h1 h2 h3 h4 => cur_pick g m k W h1 h2 h3 h4
  clear hc hal
  go_enter Tryz.func154, Tryz.ntmps154
  go_wp2_with (first
    | (go_at_call 108; refine (CP.out (m + 1) 12 _ hc2 (by omega) (by omega) (by omega)).mono ?_; rintro e w2 ⟨⟨z2, rfl, hz2⟩, hc3, hb3⟩; have hb4 := hb2.trans hb3; replace hR := hR.but hb3 (by omega); have hr2 : IntKind.i64.wrap (1 + (z2 : Int)) = 1 + (z2 : Int) := IntWalk.i64_in _ (by omega))
    | (go_at_call 108; refine (CP.out m 25 _ hc1 (by omega) (by omega) (by omega)).mono ?_; rintro e w1 ⟨⟨z1, rfl, hz1⟩, hc2, hb1⟩; have hb2 := hb.trans hb1; replace hR := hR.but hb1 (by omega); have hr1 : IntKind.i64.wrap ((z1 : Int) - 6) = (z1 : Int) - 6 := IntWalk.i64_in _ (by omega))
    | (go_at_call 152; refine (specRatOf_any _ _ _ (by omega) (by omega) (by omega) (by omega) (by omega)).mono ?_; rintro e w3 ⟨he, hb5⟩; obtain ⟨rb, rx, ry, rc, hres, k1, k2⟩ := ratOf_tiny ((z1 : Int) - 6) (1 + (z2 : Int)) (by omega) (by omega); rw [hres] at he; subst he; replace hc3 := hc3.step hb5; have hb6 := hb4.step hb5; replace hR := hR.below hb5 hR.lt; have hX := Box.new w3 27 #[.bool rb, .string rx, .string ry]; have hal := (Below.refl w3.heap.size w3).alloc (Nat.le_refl _) (.cells #[.bool rb, .string rx, .string ry] 27); replace hc3 := hc3.step hal; replace hb6 := hb6.step hal; replace hR := hR.below hal hR.lt; obtain ⟨x0, x1, x2, _, _, _⟩ := hX.three; obtain ⟨z0, z1', z2', f0, f1, f2⟩ := hR.three))
  obtain ⟨m0, m1, m2⟩ := hR.put3 (.bool rb) (.string rx) (.string ry)
  refine bodyPost_ret (v := .agg #[.bool rb, .string rx, .string ry]) (by simp [results, Tryz.results154, go_sem, m0, m1, m2]; done) rfl ⟨⟨rb, rx, ry, rfl, k1, k2⟩, ?_, ?_⟩
  · exact hc3.put3 (by omega) _ _ _
  · exact hb6.put3 (Nat.le_refl _) _ _ _

/-- The six odd Rats. -/
def oddC : Array Value := #[.bool false, .string ⟨#[]⟩, .string ⟨#[]⟩, .bool false, .string ⟨#[50]⟩, .string ⟨#[52]⟩, .bool true, .string ⟨#[48]⟩, .string ⟨#[49]⟩, .bool false, .string ⟨#[49]⟩, .string ⟨#[48]⟩, .bool false, .string ⟨#[48]⟩, .string ⟨#[50]⟩, .bool false, .string ⟨#[48, 49]⟩, .string ⟨#[49]⟩]

theorem oddC_at (z : Nat) (hz : z < 6) : ∃ b x y, oddC.getD (z * 3) undef = .bool b ∧ oddC.getD (z * 3 + 1) undef = .string x ∧ oddC.getD (z * 3 + 2) undef = .string y ∧ x.size ≤ 2 ∧ y.size ≤ 2 := by
  match z, hz with
  | 0, _ => exact ⟨_, _, _, rfl, rfl, rfl, by decide, by decide⟩
  | 1, _ => exact ⟨_, _, _, rfl, rfl, rfl, by decide, by decide⟩
  | 2, _ => exact ⟨_, _, _, rfl, rfl, rfl, by decide, by decide⟩
  | 3, _ => exact ⟨_, _, _, rfl, rfl, rfl, by decide, by decide⟩
  | 4, _ => exact ⟨_, _, _, rfl, rfl, rfl, by decide, by decide⟩
  | 5, _ => exact ⟨_, _, _, rfl, rfl, rfl, by decide, by decide⟩

set_option maxRecDepth 100000 in
set_option maxHeartbeats 800000 in
theorem among3_any (g m : Nat) (w : World) (hc : Cur w g m) (hm : m ≤ 1000000000) :
    Calls Tryz.prog 156 #[.pointer (some ⟨g, 0, none⟩)] w fun e w' => (∃ b x y, e = .returned (.agg #[.bool b, .string x, .string y]) ∧ x.size ≤ 2 ∧ y.size ≤ 2) ∧ Cur w' g (m + 1) ∧ But g w w' := by
  have hR := (Box.new w 27 #[.bool false, .string ⟨#[]⟩, .string ⟨#[]⟩]).alloc (.cells oddC 27)
  have hL := Box.new (w.alloc (.cells #[.bool false, .string ⟨#[]⟩, .string ⟨#[]⟩] 27)) 27 oddC
  have hal := ((Below.refl w.heap.size w).alloc (Nat.le_refl _) (.cells #[.bool false, .string ⟨#[]⟩, .string ⟨#[]⟩] 27)).alloc (by simp) (.cells oddC 27)
  have e0 : ∀ (W : World) (o : Obj), (W.alloc o).heap.size = W.heap.size + 1 := fun W o => by simp
  rw [e0] at hL
  clear e0
  have hb := But.of_below (g := g) hal
  have hc1 := hc.step hal
  have hgw := hc.lt
  have CP : Hid (∀ (m k : Nat) W, Cur W g m → m ≤ 1000000000000 → 1 ≤ k → k ≤ 200 → _) := Lib.hid fun m k W h1 h2 h3 h4 => cur_pick g m k W h1 h2 h3 h4
  clear hc hal
  have ho : oddC.size = 18 := rfl
  go_enter Tryz.func156, Tryz.ntmps156
  go_wp2_with (go_at_call 108; refine (CP.out m 6 _ hc1 (by omega) (by omega) (by omega)).mono ?_; rintro e w1 ⟨⟨z, rfl, hz⟩, hc2, hb1⟩; have hb2 := hb.trans hb1; replace hR := hR.but hb1 (by omega); replace hL := hL.but hb1 (by omega); obtain ⟨q0, q1, q2, _, _, _⟩ := three_at hL (z * 3) (by omega); obtain ⟨rb, rx, ry, e0, e1, e2, k1, k2⟩ := oddC_at z hz; rw [e0] at q0; rw [e1] at q1; rw [e2] at q2; obtain ⟨z0, z1', z2', f0, f1, f2⟩ := hR.three; have g1 : (0 : Int) ≤ (z : Int) := (by omega); have g2 : (z : Int) < 6 := (by omega))
  obtain ⟨m0, m1, m2⟩ := hR.put3 (.bool rb) (.string rx) (.string ry)
  refine bodyPost_ret (v := .agg #[.bool rb, .string rx, .string ry]) (by simp [results, Tryz.results156, go_sem, m0, m1, m2]; done) rfl ⟨⟨rb, rx, ry, rfl, by omega, by omega⟩, ?_, ?_⟩
  · exact hc2.put3 (by omega) _ _ _
  · exact hb2.put3 (Nat.le_refl _) _ _ _

set_option maxRecDepth 100000 in
set_option maxHeartbeats 1600000 in
theorem spoilt_any (g m : Nat) (t wth : ByteArray) (w : World) (hc : Cur w g m) (hm : m ≤ 1000000000) (ht : t.size ≤ 150) (h1 : 1 ≤ wth.size) (h2 : wth.size ≤ 150) :
    Calls Tryz.prog 155 #[.pointer (some ⟨g, 0, none⟩), .string t, .string wth] w fun e w' => (∃ s, e = .returned (.string s) ∧ s.size ≤ t.size + 2) ∧ Cur w' g (m + 7) ∧ But g w w' := by
  have hgw := hc.lt
  have CP : Hid (∀ (m k : Nat) W, Cur W g m → m ≤ 1000000000000 → 1 ≤ k → k ≤ 200 → _) := Lib.hid fun m k W h1 h2 h3 h4 => cur_pick g m k W h1 h2 h3 h4
  go_enter Tryz.func155, Tryz.ntmps155
  go_wp2_with (go_at_call 108; refine (CP.out m 2 _ hc (by omega) (by omega) (by omega)).mono ?_; rintro e w1 ⟨⟨z, rfl, hz⟩, hc1, hb1⟩; have g1 : IntKind.i64.wrap (1 + (z : Int)) = ((z + 1 : Nat) : Int) := (by rw [IntWalk.i64_in _ (by omega)]; omega))
  go_loopg [1, 7] (z + 1) (fun q tv nv wr => ∃ s : ByteArray, tv = .string s ∧ nv = .int .i64 (q : Nat) ∧ q ≤ 2 ∧ s.size + q ≤ t.size + 2 ∧ Cur wr g (m + 7 - 3 * q) ∧ But g w wr)
  case atStart => exact ⟨t, rfl, rfl, by omega, by omega, hc1.more (by omega), hb1⟩
  case round =>
    obtain ⟨s, rfl, rfl, hq2, hsz, hcr, hbr⟩ := hrel
    clear hc1 hb1
    by_cases hq : gk = 0
    · subst hq
      go_wp2_with fail
      go_ret
      exact ⟨⟨s, rfl, by omega⟩, hcr, hbr⟩
    · have d1 : decide ((0 : Int) < (gk : Int)) = true := decide_eq_true (by omega)
      by_cases hs0 : s.size = 0
      · have d2 : decide ((0 : Int) < (s.size : Int)) = false := decide_eq_false (by omega)
        go_wp2_with fail
        go_ret
        exact ⟨⟨s, rfl, by omega⟩, hcr.more (by omega), hbr⟩
      · have d2 : decide ((0 : Int) < (s.size : Int)) = true := decide_eq_true (by omega)
        have hcv := conv_one
        go_upto_region 5 with (go_at_call 108; refine (CP.out (m + 7 - 3 * gk) s.size _ hcr (by omega) (by omega) (by omega)).mono ?_; rintro e w2 ⟨⟨z1, rfl, hz1⟩, hc2, hb2⟩; replace hb2 := hbr.trans hb2)
        go_upto_region 6 with (go_at_call 108; refine (CP.out (m + 7 - 3 * gk + 1) wth.size _ hc2 (by omega) (by omega) (by omega)).mono ?_; rintro e w3 ⟨⟨z2, rfl, hz2⟩, hc3, hb3⟩; replace hb3 := hb2.trans hb3; have g3 : (0 : Int) ≤ (z2 : Int) := (by omega); have g4 : (z2 : Int) < (wth.size : Int) := (by omega))
        have hal := (Below.refl w3.heap.size w3).alloc (Nat.le_refl _) (.cells #[.int .u8 ((wth[z2]).toNat : Nat)] 5)
        replace hc3 := hc3.step hal
        replace hb3 := hb3.step hal
        obtain ⟨B, hBd⟩ : ∃ B : ByteArray, B = ⟨#[UInt8.ofNat (((wth[z2]).toNat : Nat) : Int).toNat]⟩ := ⟨_, rfl⟩
        have hBs : B.size = 1 := by rw [hBd]; rfl
        clear hal hcv
        have n1 : IntKind.i64.wrap ((gk : Int) - 1) = ((gk - 1 : Nat) : Int) := by rw [IntWalk.i64_in _ (by omega)]; omega
        have n2 : IntKind.i64.wrap ((z1 : Int) + 1) = ((z1 + 1 : Nat) : Int) := by rw [IntWalk.i64_in _ (by omega)]; omega
        go_upto_region 8 with (go_at_call 108; refine (CP.out (m + 7 - 3 * gk + 2) 3 _ hc3 (by omega) (by omega) (by omega)).mono ?_; rintro e w4 ⟨⟨z3, rfl, hz3⟩, hc4, hb4⟩; replace hb4 := hb3.trans hb4)
        have i1 : (0 : Int) ≤ (z1 : Int) := by omega
        have i2 : (z1 : Int) ≤ (s.size : Int) := by omega
        have i3 : ((z1 + 1 : Nat) : Int) ≤ (s.size : Int) := by omega
        by_cases e0 : z3 = 0
        · subst e0
          go_upto_region 9 with fail
          have q1 : ¬ 9223372036854775807 < min z1 s.size + 1 := by omega
          go_quiet (fail)
          go_wp2_with fail
          go_roundg (gk - 1)
          case rel => exact ⟨_, rfl, by go_num, by omega, by rw [ByteArray.size_append, ByteArray.size_append, ByteArray.size_extract, ByteArray.size_extract]; show _ + 1 + _ + _ ≤ _; omega, (hc4.step (below_drewN _ (Below.refl _ w4))).more (by omega), hb4.drewN _⟩
          case measure => omega
        · by_cases e1 : z3 = 1
          · subst e1
            go_upto_region 11 with fail
            have q1 : ¬ 9223372036854775807 < min z1 s.size + 1 := by omega
            go_quiet (fail)
            go_wp2_with fail
            go_roundg (gk - 1)
            case rel => exact ⟨_, rfl, by go_num, by omega, by rw [ByteArray.size_append, ByteArray.size_append, ByteArray.size_extract, ByteArray.size_extract]; show _ + 1 + _ + _ ≤ _; omega, (hc4.step (below_drewN _ (Below.refl _ w4))).more (by omega), hb4.drewN _⟩
            case measure => omega
          · have b0 : ((z3 : Int) == 0) = false := by simp; omega
            have b1 : ((z3 : Int) == 1) = false := by simp; omega
            go_upto_region 7 with fail
            have q1 : ¬ 9223372036854775807 < min z1 s.size + (s.size - (z1 + 1)) := by omega
            go_quiet (fail)
            go_wp2_with fail
            go_roundg (gk - 1)
            case rel => exact ⟨_, rfl, by go_num, by omega, by rw [ByteArray.size_append, ByteArray.size_extract, ByteArray.size_extract]; omega, (hc4.step (below_drewN _ (Below.refl _ w4))).more (by omega), hb4.drewN _⟩
            case measure => omega

end Go.Proofs.YtlfghhmphgidjaaGreatDoor
/-
  The model's drawing of any Rat, and of two.
-/
namespace Go.Proofs.YtlfghhmphgidjaaGreatDoor
open Go.RowKit Num

theorem row_new {w : World} {g k : Nat} {t : TypeId} {cs : Array Value} {V : Nat → Value} (hg : g < w.heap.size) (hV : ∀ j, j < k → cs[j]? = some (V j)) : RowAt (w.alloc (.cells cs t)) w.heap.size 0 k g V :=
  ⟨by omega, by simp, fun j hj => by rw [(Box.new w t cs).cell, Nat.zero_add]; exact hV j hj⟩

abbrev intsA : Array Value := #[.int .i64 59, .int .i64 60, .int .i64 119, .int .i64 120]
abbrev intsB : Array Value := #[.int .i64 59, .int .i64 60, .int .i64 118, .int .i64 119]
def natA : Nat → Int | 0 => 59 | 1 => 60 | 2 => 119 | _ => 120
def natB : Nat → Int | 0 => 59 | 1 => 60 | 2 => 118 | _ => 119
theorem intsA_at (j : Nat) (hj : j < 4) : intsA[j]? = some (.int .i64 (natA j)) := by
  match j, hj with | 0, _ => rfl | 1, _ => rfl | 2, _ => rfl | 3, _ => rfl
theorem intsB_at (j : Nat) (hj : j < 4) : intsB[j]? = some (.int .i64 (natB j)) := by
  match j, hj with | 0, _ => rfl | 1, _ => rfl | 2, _ => rfl | 3, _ => rfl
theorem natA_at (j : Nat) : ∃ N : Nat, N ≤ 120 ∧ natA j = (N : Int) := by
  match j with | 0 => exact ⟨59, by omega, rfl⟩ | 1 => exact ⟨60, by omega, rfl⟩ | 2 => exact ⟨119, by omega, rfl⟩ | _ + 3 => exact ⟨120, by omega, rfl⟩
theorem natB_at (j : Nat) : ∃ N : Nat, N ≤ 120 ∧ natB j = (N : Int) := by
  match j with | 0 => exact ⟨59, by omega, rfl⟩ | 1 => exact ⟨60, by omega, rfl⟩ | 2 => exact ⟨118, by omega, rfl⟩ | _ + 3 => exact ⟨119, by omega, rfl⟩
abbrev strsA : Array Value := #[.string ⟨#[49]⟩, .string ⟨#[51]⟩, .string ⟨#[55]⟩, .string ⟨#[50, 49]⟩]
abbrev strsB : Array Value := #[.string ⟨#[49]⟩, .string ⟨#[50]⟩, .string ⟨#[53]⟩]
def strA : Nat → ByteArray | 0 => ⟨#[49]⟩ | 1 => ⟨#[51]⟩ | 2 => ⟨#[55]⟩ | _ => ⟨#[50, 49]⟩
def strB : Nat → ByteArray | 0 => ⟨#[49]⟩ | 1 => ⟨#[50]⟩ | _ => ⟨#[53]⟩
theorem strsA_at (j : Nat) (hj : j < 4) : strsA[j]? = some (.string (strA j)) := by
  match j, hj with | 0, _ => rfl | 1, _ => rfl | 2, _ => rfl | 3, _ => rfl
theorem strsB_at (j : Nat) (hj : j < 3) : strsB[j]? = some (.string (strB j)) := by
  match j, hj with | 0, _ => rfl | 1, _ => rfl | 2, _ => rfl
theorem strA_size (j : Nat) : (strA j).size ≤ 2 := by
  match j with | 0 => exact (by decide : (1 : Nat) ≤ 2) | 1 => exact (by decide : (1 : Nat) ≤ 2) | 2 => exact (by decide : (1 : Nat) ≤ 2) | _ + 3 => exact Nat.le_refl 2
theorem strB_size (j : Nat) : (strB j).size ≤ 2 := by
  match j with | 0 => exact (by decide : (1 : Nat) ≤ 2) | 1 => exact (by decide : (1 : Nat) ≤ 2) | _ + 2 => exact (by decide : (1 : Nat) ≤ 2)

/-- Some Rat. -/
def SomeRat (g m : Nat) (w : World) (e : Ending) (w' : World) : Prop := (∃ b x y, e = .returned (.agg #[.bool b, .string x, .string y]) ∧ x.size ≤ 130 ∧ y.size ≤ 130 ∧ x.size + y.size ≤ 130) ∧ Cur w' g (m + 20) ∧ But g w w'

set_option maxRecDepth 100000 in
set_option maxHeartbeats 1600000 in
theorem anyRat_any (g m : Nat) (w : World) (hc : Cur w g m) (hm : m ≤ 100000000) :
    Calls Tryz.prog 113 #[.pointer (some ⟨g, 0, none⟩)] w (SomeRat g m w) := by
  have hR := Box.new w 27 #[.bool false, .string ⟨#[]⟩, .string ⟨#[]⟩]
  have hal := (Below.refl w.heap.size w).alloc (Nat.le_refl _) (.cells #[.bool false, .string ⟨#[]⟩, .string ⟨#[]⟩] 27)
  have hb := But.of_below (g := g) hal
  have hc1 := hc.step hal
  have hgw := hc.lt
  have CP : Hid (∀ (m k : Nat) W, Cur W g m → m ≤ 1000000000000 → 1 ≤ k → k ≤ 200 → _) := Lib.hid fun m k W h1 h2 h3 h4 => cur_pick g m k W h1 h2 h3 h4
  have CO : Hid (∀ (m k : Nat) W, Cur W g m → m ≤ 1000000000000 → 1 ≤ k → k ≤ 200 → _) := Lib.hid fun m k W h1 h2 h3 h4 => cur_one g m k W h1 h2 h3 h4
  have CR : Hid (∀ (m : Nat) W, Cur W g m → m ≤ 1000000000 → _) := Lib.hid fun m W h1 h2 => rat_any g m W h1 h2
  have CT : Hid (∀ (m : Nat) W, Cur W g m → m ≤ 1000000000 → _) := Lib.hid fun m W h1 h2 => among3_any g m W h1 h2
  have CF : Hid (∀ (m b k : Nat) (F : Nat → ByteArray) W, Cur W g m → m ≤ 1000000000000 → 1 ≤ k → k ≤ 200 → RowAt W b 0 k g (fun j => .string (F j)) → _) := Lib.hid fun m b k F W h1 h2 h3 h4 h5 => cur_of g m b 0 k k F W h1 h2 h3 h4 h5
  clear hc hal
  go_enter Tryz.func113, Tryz.ntmps113
  go_upto_region 2 with (go_at_call 108; refine (CP.out m 12 _ hc1 (by omega) (by omega) (by omega)).mono ?_; rintro e w1 ⟨⟨z, rfl, hz⟩, hc2, hb1⟩; have hb2 := hb.trans hb1; replace hR := hR.but hb1 (by omega))
  clear hc1 hb hb1
  have hg1 : g < w1.heap.size := hc2.lt
  by_cases e0 : z = 0
  · subst e0
    have hal := (Below.refl w1.heap.size w1).alloc (Nat.le_refl _) (.cells intsA 3)
    have hc3 := hc2.step hal
    have hb3 := hb2.step hal
    have hR3 := hR.below hal hR.lt
    have CA : Hid (∀ (_ : Unit), _) := Lib.hid fun _ => cur_among g (m + 1) w1.heap.size 0 4 4 natA _ hc3 (by omega) (by omega) (by omega) (row_new hg1 intsA_at)
    go_wp2_with (go_at_call 109; refine (CA.out ()).mono ?_; rintro e w2 ⟨⟨j, hj, he⟩, hc4, hb4⟩; obtain ⟨N, hN1, hN2⟩ := natA_at j; rw [hN2] at he; subst he; replace hR3 := hR3.but hb4 (by omega); replace hb4 := hb3.trans hb4)
    clear hc3 hb3 CA hc2 hb2 hR
    go_loopg [3, 4] N (fun q sv nv wr => ∃ s : ByteArray, sv = .string s ∧ nv = .int .i64 (q : Nat) ∧ s.size + q ≤ 121 ∧ q ≤ 120 ∧ wr = w2)
    case atStart => exact ⟨_, rfl, rfl, by show 1 + N ≤ 121; omega, by omega, rfl⟩
    case round =>
      obtain ⟨s, rfl, rfl, hsz, hq2, rfl⟩ := hrel
      by_cases hq : gk = 0
      · subst hq
        go_upto_region 8 with fail
        go_wp2_with (first
          | (go_at_call 112; refine (CO.out (m + 2) 2 _ hc4 (by omega) (by omega) (by omega)).mono ?_; rintro e w3 ⟨⟨rb, rfl⟩, hc5, hb5⟩; have hR4 := hR3.but hb5 (by omega); have hb6 := hb4.trans hb5; have hal := (Below.refl w3.heap.size w3).alloc (Nat.le_refl _) (.cells strsA 9); have hc6 := hc5.step hal; have hb7 := hb6.step hal; have hR5 := hR4.below hal hR4.lt; have hrow := row_new (g := g) (t := 9) hc5.lt strsA_at; clear hal hc5 hb5 hb6 hR4)
          | (go_at_call 153; refine (CF.out (m + 3) _ 4 strA _ hc6 (by omega) (by omega) (by omega) hrow).mono ?_; rintro e w4 ⟨⟨j', hj', rfl⟩, hc7, hb8⟩; have hR6 := hR5.but hb8 (by omega); have hb9 := hb7.trans hb8; obtain ⟨z0, z1', z2', f0, f1, f2⟩ := hR6.three))
        obtain ⟨m0, m1, m2⟩ := hR6.put3 (.bool rb) (.string s) (.string (strA j'))
        have hst := strA_size j'
        refine bodyPost_ret (v := .agg #[.bool rb, .string s, .string (strA j')]) (by simp [results, Tryz.results113, go_sem, m0, m1, m2]; done) rfl ⟨⟨rb, s, strA j', rfl, by omega, by omega⟩, ?_, ?_⟩
        · exact (hc7.put3 (by omega) _ _ _).more (by omega)
        · exact hb9.put3 (Nat.le_refl _) _ _ _
      · have d1 : decide ((0 : Int) < (gk : Int)) = true := decide_eq_true (by omega)
        have q1 : ¬ 9223372036854775807 < s.size + 1 := by omega
        have n1 : IntKind.i64.wrap ((gk : Int) - 1) = ((gk - 1 : Nat) : Int) := by rw [IntWalk.i64_in _ (by omega)]; omega
        go_wp2_with fail
        go_roundg (gk - 1)
        case rel => exact ⟨_, rfl, by go_num, by rw [ByteArray.size_append]; show s.size + 1 + _ ≤ _; omega, by omega, rfl⟩
        case measure => omega
  · have b0 : ((z : Int) == 0) = false := by simp; omega
    by_cases e1 : z = 1
    · subst e1
      have hal := (Below.refl w1.heap.size w1).alloc (Nat.le_refl _) (.cells intsB 3)
      have hc3 := hc2.step hal
      have hb3 := hb2.step hal
      have hR3 := hR.below hal hR.lt
      have CA : Hid (∀ (_ : Unit), _) := Lib.hid fun _ => cur_among g (m + 1) w1.heap.size 0 4 4 natB _ hc3 (by omega) (by omega) (by omega) (row_new hg1 intsB_at)
      go_wp2_with (go_at_call 109; refine (CA.out ()).mono ?_; rintro e w2 ⟨⟨j, hj, he⟩, hc4, hb4⟩; obtain ⟨N, hN1, hN2⟩ := natB_at j; rw [hN2] at he; subst he; replace hR3 := hR3.but hb4 (by omega); replace hb4 := hb3.trans hb4)
      clear hc3 hb3 CA hc2 hb2 hR
      go_loopg [5, 6] N (fun q sv nv wr => ∃ s : ByteArray, sv = .string s ∧ nv = .int .i64 (q : Nat) ∧ s.size + q ≤ 121 ∧ q ≤ 120 ∧ wr = w2)
      case atStart => exact ⟨_, rfl, rfl, by show 1 + N ≤ 121; omega, by omega, rfl⟩
      case round =>
        obtain ⟨s, rfl, rfl, hsz, hq2, rfl⟩ := hrel
        by_cases hq : gk = 0
        · subst hq
          go_upto_region 15 with fail
          have hal := (Below.refl wr.heap.size wr).alloc (Nat.le_refl _) (.cells strsB 9)
          have hc6 := hc4.step hal
          have hb7 := hb4.step hal
          have hR5 := hR3.below hal hR3.lt
          have hrow := row_new (g := g) (t := 9) hc4.lt strsB_at
          go_wp2_with (go_at_call 153; refine (CF.out (m + 2) _ 3 strB _ hc6 (by omega) (by omega) (by omega) hrow).mono ?_; rintro e w4 ⟨⟨j', hj', rfl⟩, hc7, hb8⟩; have hR6 := hR5.but hb8 (by omega); have hb9 := hb7.trans hb8; obtain ⟨z0, z1', z2', f0, f1, f2⟩ := hR6.three)
          obtain ⟨m0, m1, m2⟩ := hR6.put3 (.bool false) (.string (strB j')) (.string s)
          have hst := strB_size j'
          refine bodyPost_ret (v := .agg #[.bool false, .string (strB j'), .string s]) (by simp [results, Tryz.results113, go_sem, m0, m1, m2]; done) rfl ⟨⟨false, strB j', s, rfl, by omega, by omega⟩, ?_, ?_⟩
          · exact (hc7.put3 (by omega) _ _ _).more (by omega)
          · exact hb9.put3 (Nat.le_refl _) _ _ _
        · have d1 : decide ((0 : Int) < (gk : Int)) = true := decide_eq_true (by omega)
          have q1 : ¬ 9223372036854775807 < s.size + 1 := by omega
          have n1 : IntKind.i64.wrap ((gk : Int) - 1) = ((gk - 1 : Nat) : Int) := by rw [IntWalk.i64_in _ (by omega)]; omega
          go_wp2_with fail
          go_roundg (gk - 1)
          case rel => exact ⟨_, rfl, by go_num, by rw [ByteArray.size_append]; show s.size + 1 + _ ≤ _; omega, by omega, rfl⟩
          case measure => omega
    · have b1 : ((z : Int) == 1) = false := by simp; omega
      by_cases e2 : z = 2
      · subst e2
        go_wp2_with (first
          | (go_at_call 154; refine (CR.out (m + 1) _ hc2 (by omega)).mono ?_; rintro e w2 ⟨⟨rb, rx, ry, rfl, k1, k2⟩, hc3, hb3⟩; have hR3 := hR.but hb3 (by omega); have hb4 := hb2.trans hb3; have hX := Box.new w2 27 #[.bool rb, .string rx, .string ry]; have hal := (Below.refl w2.heap.size w2).alloc (Nat.le_refl _) (.cells #[.bool rb, .string rx, .string ry] 27); have hc4 := hc3.step hal; have hb5 := hb4.step hal; have hR4 := hR3.below hal hR3.lt; have hg2 := hc3.lt; have hRX := hR3.lt; clear hc3 hb3 hb4 hR3; obtain ⟨x0, x1, x2, u0, u1, u2⟩ := hX.three)
          | (go_at_call 155; refine (spoilt_any g (m + 3) rx ⟨#[48, 49, 50, 51, 45]⟩ _ hc4 (by omega) (by omega) (by decide) (by decide)).mono ?_; rintro e w3 ⟨⟨s, rfl, hs⟩, hc5, hb6⟩; have hX2 := hX.but hb6 (by omega); have hR5 := hR4.but hb6 (by omega); have hb7 := hb5.trans hb6; obtain ⟨y0, y1, y2, v0, v1, v2⟩ := hX2.three; obtain ⟨z0, z1', z2', f0, f1, f2⟩ := hR5.three))
        have hR6 : Box (w3.setCell ⟨w2.heap.size, 1, none⟩ (.string s)) w.heap.size 27 #[.bool false, .string ⟨#[]⟩, .string ⟨#[]⟩] := (Below.heap_setCell _ _ _ _ (by show w.heap.size ≠ w2.heap.size; omega)).trans hR5
        obtain ⟨m0, m1, m2⟩ := hR6.put3 (.bool rb) (.string s) (.string ry)
        refine bodyPost_ret (v := .agg #[.bool rb, .string s, .string ry]) (by simp [results, Tryz.results113, go_sem, m0, m1, m2]; done) rfl ⟨⟨rb, s, ry, rfl, by omega, by omega⟩, ?_, ?_⟩
        · exact ((hc5.far (by omega)).put3 (by omega) _ _ _).more (by omega)
        · exact (hb7.new (by omega) 1 _).put3 (Nat.le_refl _) _ _ _
      · have b2 : ((z : Int) == 2) = false := by simp; omega
        by_cases e3 : z = 3
        · subst e3
          go_wp2_with (go_at_call 156; refine (CT.out (m + 1) _ hc2 (by omega)).mono ?_; rintro e w2 ⟨⟨rb, rx, ry, rfl, k1, k2⟩, hc3, hb3⟩; have hR3 := hR.but hb3 (by omega); have hb4 := hb2.trans hb3; have hg2 := hc3.lt; obtain ⟨z0, z1', z2', f0, f1, f2⟩ := hR3.three)
          obtain ⟨m0, m1, m2⟩ := hR3.put3 (.bool rb) (.string rx) (.string ry)
          refine bodyPost_ret (v := .agg #[.bool rb, .string rx, .string ry]) (by simp [results, Tryz.results113, go_sem, m0, m1, m2]; done) rfl ⟨⟨rb, rx, ry, rfl, by omega, by omega⟩, ?_, ?_⟩
          · exact (hc3.put3 (by omega) _ _ _).more (by omega)
          · exact hb4.put3 (Nat.le_refl _) _ _ _
        · have b3 : ((z : Int) == 3) = false := by simp; omega
          go_wp2_with (go_at_call 154; refine (CR.out (m + 1) _ hc2 (by omega)).mono ?_; rintro e w2 ⟨⟨rb, rx, ry, rfl, k1, k2⟩, hc3, hb3⟩; have hR3 := hR.but hb3 (by omega); have hb4 := hb2.trans hb3; have hg2 := hc3.lt; obtain ⟨z0, z1', z2', f0, f1, f2⟩ := hR3.three)
          obtain ⟨m0, m1, m2⟩ := hR3.put3 (.bool rb) (.string rx) (.string ry)
          refine bodyPost_ret (v := .agg #[.bool rb, .string rx, .string ry]) (by simp [results, Tryz.results113, go_sem, m0, m1, m2]; done) rfl ⟨⟨rb, rx, ry, rfl, by omega, by omega⟩, ?_, ?_⟩
          · exact (hc3.put3 (by omega) _ _ _).more (by omega)
          · exact hb4.put3 (Nat.le_refl _) _ _ _

end Go.Proofs.YtlfghhmphgidjaaGreatDoor
/-
  The model's drawing of two Rats.
-/
namespace Go.Proofs.YtlfghhmphgidjaaGreatDoor
open Go.RowKit Num

theorem cur_new {w W : World} {A : Option Addr} {n c : Nat} (hn : n ≤ 9223372036854775807) (h : BytesAt w A n w.heap.size) (hW : Below w.heap.size w W) : Cur (W.alloc (.cells #[.slice A n c, .int .i64 0, .int .u64 0] 145)) W.heap.size 0 := by
  have hs := hW.size
  have hb := hW.alloc hW.size (.cells #[.slice A n c, .int .i64 0, .int .u64 0] 145)
  refine ⟨A, n, c, 0, 0, hn, Box.new W _ _, Nat.le_refl _, fun h0 => ?_⟩
  obtain ⟨b, off, rfl, h1, h2, h3⟩ := h h0
  refine ⟨b, off, rfl, by omega, by simp; omega, fun j hj => ?_⟩
  obtain ⟨z, hz, hc⟩ := h3 j hj
  exact ⟨z, hz, (hb.cell (p := ⟨b, off + j, none⟩) h2).trans hc⟩

theorem Box.far3 {w : World} {b H : Nat} {t : TypeId} {cs : Array Value} (h : Box w b t cs) (hne : b ≠ H) (x y z : Value) : Box (((w.setCell ⟨H, 0, none⟩ x).setCell ⟨H, 1, none⟩ y).setCell ⟨H, 2, none⟩ z) b t cs :=
  (Below.heap_setCell _ _ _ _ hne).trans ((Below.heap_setCell _ _ _ _ hne).trans ((Below.heap_setCell _ _ _ _ hne).trans h))

theorem Box.into3 {w : World} {g : Nat} {t : TypeId} {a b c : Value} (h : Box w g t #[a, b, c]) (x y z : Value) : Box (((w.setCell ⟨g, 0, none⟩ x).setCell ⟨g, 1, none⟩ y).setCell ⟨g, 2, none⟩ z) g t #[x, y, z] := ((h.set 0 x).set 1 y).set 2 z

abbrev noR : Array Value := #[.bool false, .string ⟨#[]⟩, .string ⟨#[]⟩]

end Go.Proofs.YtlfghhmphgidjaaGreatDoor
/-
  The model's drawing of a list of Rats.
-/
namespace Go.Proofs.YtlfghhmphgidjaaGreatDoor
open Go.RowKit Num

/-- Rats as cells. -/
def ratL : List (Bool × ByteArray × ByteArray) → List Value
  | [] => []
  | r :: rs => .bool r.1 :: .string r.2.1 :: .string r.2.2 :: ratL rs
theorem ratL_snoc (rs : List (Bool × ByteArray × ByteArray)) (r : Bool × ByteArray × ByteArray) : ratL (rs ++ [r]) = ratL rs ++ [.bool r.1, .string r.2.1, .string r.2.2] := by
  induction rs with
  | nil => rfl
  | cons a t ih => simp [ratL, ih]
theorem ratL_at (rs : List (Bool × ByteArray × ByteArray)) (j : Nat) (hj : j < rs.length) (c : Nat) (hc : c < 3) : (ratL rs)[j * 3 + c]? = some (ratC (rs.getD j (false, ⟨#[]⟩, ⟨#[]⟩)) c) := by
  induction rs generalizing j with
  | nil => simp at hj
  | cons a t ih =>
    cases j with
    | zero =>
      match c, hc with
      | 0, _ => rfl
      | 1, _ => rfl
      | 2, _ => rfl
    | succ j =>
      have h := ih j (by simpa using hj)
      have e : (j + 1) * 3 + c = j * 3 + c + 1 + 1 + 1 := by omega
      rw [e]
      simpa [ratL] using h

/-- A list of Rats of one's own, behind block g. -/
def Listed (w : World) (g : Nat) (v : Value) (rs : List (Bool × ByteArray × ByteArray)) : Prop := w.ownsRow (g + 1) 27 3 v rs.length (ratL rs) ∧ ∀ r ∈ rs, r.2.1.size ≤ 130 ∧ r.2.2.size ≤ 130

theorem owns_but {g base n size : Nat} {w w' : World} {e : TypeId} {v : Value} {xs : List Value} (h : w.ownsRow base e size v n xs) (k : But g w w') (hg : g < base) : w'.ownsRow base e size v n xs := by
  refine ⟨h.1, ?_⟩
  rcases h.2 with h2 | ⟨b, cap, cur, rfl, h3, h4, h5⟩
  · exact .inl h2
  · have hb : b < w.heap.size := by
      rcases Nat.lt_or_ge b w.heap.size with h' | h'
      · exact h'
      · rw [Array.getElem?_eq_none h'] at h4; cases h4
    exact .inr ⟨b, cap, cur, rfl, h3, (k.block b hb (by omega)).trans h4, h5⟩
theorem Listed.but {g : Nat} {w w' : World} {v : Value} {rs : List (Bool × ByteArray × ByteArray)} (h : Listed w g v rs) (k : But g w w') : Listed w' g v rs := ⟨owns_but h.1 k (by omega), h.2⟩

theorem Listed.more {g : Nat} {w : World} {v : Value} {rs : List (Bool × ByteArray × ByteArray)} {b : Bool} {x y : ByteArray} (h : w.ownsRow (g + 1) 27 3 v (rs.length + 1) (ratL rs ++ [.bool b, .string x, .string y])) (hs : ∀ r ∈ rs, r.2.1.size ≤ 130 ∧ r.2.2.size ≤ 130) (hx : x.size ≤ 130) (hy : y.size ≤ 130) :
    Listed w g v (rs ++ [(b, x, y)]) := by
  refine ⟨by rw [ratL_snoc, List.length_append]; exact h, fun r hr => ?_⟩
  rcases List.mem_append.1 hr with hr | hr
  · exact hs r hr
  · obtain rfl := List.mem_singleton.1 hr
    exact ⟨hx, hy⟩

theorem Cur.grown {w w' : World} {g m : Nat} {row : Option Nat} (h : Cur w g m) (hg : w.grownBy w' row) (hrow : ∀ k, row = some k → g < k) : Cur w' g m := by
  obtain ⟨A, n, c, a, sd, h1, h2, h3, h4⟩ := h
  refine ⟨A, n, c, a, sd, h1, (hg.block g h2.lt (fun e => by have := hrow g e.symm; omega)).trans h2, h3, fun h0 => ?_⟩
  obtain ⟨b, off, rfl, k1, k2, k3⟩ := h4 h0
  refine ⟨b, off, rfl, k1, Nat.lt_of_lt_of_le k2 hg.size, fun j hj => ?_⟩
  obtain ⟨z, hz, hcz⟩ := k3 j hj
  refine ⟨z, hz, (World.cell?_of_block (a := ⟨b, off + j, none⟩) (hg.block b k2 (fun e => by have := hrow b e.symm; omega))).trans hcz⟩
theorem But.grown {g : Nat} {w0 w w' : World} {row : Option Nat} (h : But g w0 w) (hg : w.grownBy w' row) (hrow : ∀ k, row = some k → w0.heap.size ≤ k) : But g w0 w' :=
  ⟨hg.os.trans h.os, hg.tape.trans h.tape, hg.output.trans h.output, Nat.le_trans h.size hg.size, fun k hk hne => by
    rw [hg.block k (Nat.lt_of_lt_of_le hk h.size) (fun e => by have := hrow k e.symm; omega)]
    exact h.block k hk hne⟩

theorem Listed.row {g : Nat} {w : World} {v : Value} {rs : List (Bool × ByteArray × ByteArray)} (h : Listed w g v rs) (k : Nat) (hk : v.ownBlock = some k) : g < k := by
  have := (h.1.lt k hk).1
  omega

theorem one_rat (b : Bool) (x y : ByteArray) : ∀ u ∈ [Value.bool b, .string x, .string y], u.oneCell' = true := by
  intro u hu
  simp at hu
  rcases hu with rfl | rfl | rfl <;> rfl
theorem cells_rat_new (w : World) (t : TypeId) (b : Bool) (x y : ByteArray) : ∀ j u, [Value.bool b, .string x, .string y][j]? = some u → (w.alloc (.cells #[.bool b, .string x, .string y] t)).cell? ((⟨w.heap.size, 0, none⟩ : Addr).add j) = some u := by
  intro j u hu
  obtain ⟨h0, h1, h2, _⟩ := (Box.new w t #[.bool b, .string x, .string y]).three
  have hz : ∀ j, (⟨w.heap.size, 0, none⟩ : Addr).add j = ⟨w.heap.size, j, none⟩ := fun j => by unfold Addr.add; split <;> simp_all
  rw [hz]
  match j, hu with
  | 0, hu => cases hu; exact h0
  | 1, hu => cases hu; exact h1
  | 2, hu => cases hu; exact h2

/-- What the list says in the end. -/
theorem Listed.says {g : Nat} {w : World} {v : Value} {rs : List (Bool × ByteArray × ByteArray)} (h : Listed w g v rs) : ∃ A0 cap, v = .slice A0 rs.length cap ∧ RatAt w A0 rs.length fun j => rs.getD j (false, ⟨#[]⟩, ⟨#[]⟩) := by
  rcases h.1.2 with ⟨rfl, h0⟩ | ⟨b, cap, cur, rfl, h3, h4, h5, h6, h7, h8⟩
  · exact ⟨none, 0, by rw [h0], fun hp => by omega⟩
  · refine ⟨_, cap, rfl, fun _ => ⟨b, 0, rfl, ?_, fun j hj c hc => ?_⟩⟩
    · rcases Nat.lt_or_ge b w.heap.size with h' | h'
      · exact h'
      · rw [Array.getElem?_eq_none h'] at h4; cases h4
    · have hz := h.1.cells (g := b) rfl (j * 3 + c) _ (ratL_at rs j hj c hc)
      have e : (⟨b, 0, none⟩ : Addr).add (j * 3 + c) = ⟨b, 0 + (j * 3 + c), none⟩ := by unfold Addr.add; split <;> simp_all
      rw [e] at hz
      exact hz

end Go.Proofs.YtlfghhmphgidjaaGreatDoor
