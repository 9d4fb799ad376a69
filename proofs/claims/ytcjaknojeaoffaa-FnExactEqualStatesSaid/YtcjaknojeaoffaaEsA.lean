/-
  Lists of weighted states: how they read, the law's copies, comparisons and sizes of them.
-/
import Derived.Test.YtcjaknojeaoffaaPgCmp
namespace Go.Proofs.Ytcjaknojeaoffaa
open Go.RowKit Num

/-- A weighted state's cells. -/
def WtR (lo : Nat) (wl : Nat → Nat) (wv : Nat → Nat → Int) (wq : Nat → Bool × ByteArray × ByteArray) (w : World) (j : Nat) (C : Nat → Value) : Prop :=
  (∃ A c, C 0 = .slice A (wl j) c ∧ IntsAt lo w A (wl j) (wv j)) ∧ C 1 = .bool (wq j).1 ∧ C 2 = .string (wq j).2.1 ∧ C 3 = .string (wq j).2.2
def WtAt (lo : Nat) (w : World) (A : Option Addr) (n : Nat) (wl : Nat → Nat) (wv : Nat → Nat → Int) (wq : Nat → Bool × ByteArray × ByteArray) : Prop := Arr lo 4 (WtR lo wl wv wq) w A n

theorem WtR.stays (lo : Nat) (wl : Nat → Nat) (wv : Nat → Nat → Int) (wq : Nat → Bool × ByteArray × ByteArray) : Stays lo (WtR lo wl wv wq) := fun _ _ _ _ h hk => by
  obtain ⟨⟨A, c, h1, h2⟩, h0⟩ := h
  exact ⟨⟨A, c, h1, h2.keep hk⟩, h0⟩
theorem WtR.low {lo lo' : Nat} {wl : Nat → Nat} {wv : Nat → Nat → Int} {wq : Nat → Bool × ByteArray × ByteArray} {w : World} {j : Nat} {C : Nat → Value} (h : WtR lo wl wv wq w j C) (hl : lo' ≤ lo) : WtR lo' wl wv wq w j C := by
  obtain ⟨⟨A, c, h1, h2⟩, h0⟩ := h
  exact ⟨⟨A, c, h1, h2.low hl⟩, h0⟩

section
variable {lo lo' B : Nat} {w w' : World} {A : Option Addr} {n j : Nat} {wl : Nat → Nat} {wv : Nat → Nat → Int} {wq : Nat → Bool × ByteArray × ByteArray}
theorem WtAt.keep (h : WtAt lo w A n wl wv wq) (hk : Keeps lo w w') : WtAt lo w' A n wl wv wq := Arr.keep (WtR.stays lo wl wv wq) h hk
theorem WtAt.below (h : WtAt lo w A n wl wv wq) (hb : Below B w w') (hB : w.heap.size ≤ B) : WtAt lo w' A n wl wv wq := h.keep (.of_below hb hB)
theorem WtAt.at_ (h : WtAt lo w A n wl wv wq) (hj : j < n) :
    ∃ b off A1 c1, A = some ⟨b, off, none⟩ ∧ b < w.heap.size ∧ w.cell? ⟨b, off + j * 4, none⟩ = some (.slice A1 (wl j) c1) ∧ w.cell? ⟨b, off + j * 4 + 1, none⟩ = some (.bool (wq j).1) ∧ w.cell? ⟨b, off + j * 4 + 2, none⟩ = some (.string (wq j).2.1) ∧ w.cell? ⟨b, off + j * 4 + 3, none⟩ = some (.string (wq j).2.2) ∧ IntsAt lo w A1 (wl j) (wv j) := by
  obtain ⟨b, off, rfl, h1, h2⟩ := h (by omega)
  obtain ⟨C, ⟨⟨A1, c1, e0, g⟩, e1, e2, e3⟩, hc⟩ := h2 j hj
  have k0 := hc 0 (by omega)
  have k1 := hc 1 (by omega)
  have k2 := hc 2 (by omega)
  have k3 := hc 3 (by omega)
  rw [e0] at k0
  rw [e1] at k1
  rw [e2] at k2
  rw [e3] at k3
  exact ⟨b, off, A1, c1, rfl, h1.2, k0, k1, k2, k3, g⟩
end

/-- The cells of a block of three, and of four. -/
theorem Box.treW {w : World} {g : Nat} {t : TypeId} {a b c : Value} (h : Box w g t #[a, b, c]) : w.cell? ⟨g, 0, none⟩ = some a ∧ w.cell? ⟨g, 1, none⟩ = some b ∧ w.cell? ⟨g, 2, none⟩ = some c := ⟨h.cell 0, h.cell 1, h.cell 2⟩
theorem Box.fourW {w : World} {g : Nat} {t : TypeId} {a b c d : Value} (h : Box w g t #[a, b, c, d]) : w.cell? ⟨g, 0, none⟩ = some a ∧ w.cell? ⟨g, 1, none⟩ = some b ∧ w.cell? ⟨g, 2, none⟩ = some c ∧ w.cell? ⟨g, 3, none⟩ = some d ∧ (∀ k, w.frozen? ⟨g, k, none⟩ = false) :=
  ⟨h.cell 0, h.cell 1, h.cell 2, h.cell 3, fun k => h.free k⟩

set_option maxRecDepth 100000 in
set_option maxHeartbeats 1600000 in
theorem szRatW_any (b : Bool) (x y : ByteArray) (left : Int) (w : World) (hx : x.size ≤ 9223372036854775807) (hy : y.size ≤ 9223372036854775807) (h0 : 0 ≤ left) (h1 : left ≤ 1048576) :
    Calls Try.prog 17 #[.agg #[.bool b, .string x, .string y], .int .i64 left] w (Sz left (x.size ≤ 1048576 ∧ y.size ≤ 1048576) w) := by
  have hbox := Box.new w 31 #[.bool b, .string x, .string y]
  obtain ⟨r0, r1, r2⟩ := hbox.treW
  have hB := (Below.refl w.heap.size w).alloc (Nat.le_refl _) (.cells #[.bool b, .string x, .string y] 31)
  have w1 : IntKind.i64.wrap (left - (x.size : Int)) = left - (x.size : Int) := IntWalk.i64_in _ (by omega)
  by_cases h2 : left - (x.size : Int) < 0
  · go_enter Try.func17, Try.ntmps17
    go_wp2_with fail
    all_goals first
      | (go_ret; exact ⟨-1, rfl, Lib.hid ⟨by omega, by omega, fun h => absurd h (by decide)⟩, hB⟩)
      | (exfalso; omega)
  · have w2 : IntKind.i64.wrap (left - (x.size : Int) - (y.size : Int)) = left - (x.size : Int) - (y.size : Int) := IntWalk.i64_in _ (by omega)
    by_cases h3 : left - (x.size : Int) - (y.size : Int) < 0
    · go_enter Try.func17, Try.ntmps17
      go_wp2_with fail
      all_goals first
        | (go_ret; exact ⟨-1, rfl, Lib.hid ⟨by omega, by omega, fun h => absurd h (by decide)⟩, hB⟩)
        | (exfalso; omega)
    · go_enter Try.func17, Try.ntmps17
      go_wp2_with fail
      all_goals first
        | (go_ret; exact ⟨left - (x.size : Int) - (y.size : Int), rfl, Lib.hid ⟨by omega, by omega, fun h => ⟨by omega, by omega⟩⟩, hB⟩)
        | (exfalso; omega)

set_option maxRecDepth 100000 in
set_option maxHeartbeats 1600000 in
theorem toRatW_any (b : Bool) (x y : ByteArray) (w : World) :
    Calls Try.prog 19 #[.agg #[.bool b, .string x, .string y]] w fun e w' => e = .returned (.agg #[.bool b, .string x, .string y]) ∧ Below w.heap.size w w' := by
  have hbox := Box.new w 31 #[.bool b, .string x, .string y]
  obtain ⟨r0, r1, r2⟩ := hbox.treW
  go_enter Try.func19, Try.ntmps19
  go_wp2_with fail
  have hb2 := (Box.new (w.alloc (.cells #[.bool b, .string x, .string y] 31)) 34 #[.bool b, .string x, .string y]).alloc (.cells #[.bool b, .string x, .string y] 34)
  rw [show (w.alloc (.cells #[.bool b, .string x, .string y] 31)).heap.size = w.heap.size + 1 by simp] at hb2
  obtain ⟨k0, k1, k2⟩ := hb2.treW
  refine bodyPost_ret (v := .agg #[.bool b, .string x, .string y]) (by simp [results, Try.results19, go_sem, k0, k1, k2]; done) rfl ⟨rfl, ?_⟩
  exact (((Below.refl _ w).alloc (Nat.le_refl _) _).alloc (by simp) _).alloc (by simp; omega) _

set_option maxRecDepth 100000 in
set_option maxHeartbeats 1600000 in
theorem eqRatW_any (b : Bool) (x y : ByteArray) (w : World) :
    Calls Try.prog 21 #[.agg #[.bool b, .string x, .string y], .agg #[.bool b, .string x, .string y]] w fun e w' => e = .returned (.bool true) ∧ Below w.heap.size w w' := by
  have hP := (Box.new w 34 #[.bool b, .string x, .string y]).alloc (.cells #[.bool b, .string x, .string y] 34)
  have hQ := Box.new (w.alloc (.cells #[.bool b, .string x, .string y] 34)) 34 #[.bool b, .string x, .string y]
  rw [show (w.alloc (.cells #[.bool b, .string x, .string y] 34)).heap.size = w.heap.size + 1 by simp] at hQ
  obtain ⟨q0, q1, q2⟩ := hP.treW
  obtain ⟨u0, u1, u2⟩ := hQ.treW
  have hB : Below w.heap.size w ((w.alloc (.cells #[.bool b, .string x, .string y] 34)).alloc (.cells #[.bool b, .string x, .string y] 34)) := ((Below.refl _ w).alloc (Nat.le_refl _) _).alloc (by simp) _
  go_enter Try.func21, Try.ntmps21
  go_wp2_with fail
  go_ret
  exact ⟨rfl, hB⟩

set_option maxRecDepth 100000 in
set_option maxHeartbeats 1600000 in
theorem szWt_any (A1 : Option Addr) (m c1 : Nat) (b : Bool) (x y : ByteArray) (left : Int) (w : World) (hm : m ≤ 9223372036854775807) (hx : x.size ≤ 9223372036854775807) (hy : y.size ≤ 9223372036854775807) (h0 : 0 ≤ left) (h1 : left ≤ 1048576) :
    Calls Try.prog 9 #[.agg #[.slice A1 m c1, .bool b, .string x, .string y], .int .i64 left] w (Sz left (m ≤ 1048576 ∧ x.size ≤ 1048576 ∧ y.size ≤ 1048576) w) := by
  have hP := Box.new w 33 #[.slice A1 m c1, .bool b, .string x, .string y]
  obtain ⟨q0, q1, q2, q3, qf⟩ := hP.fourW
  have hB := (Below.refl w.heap.size w).alloc (Nat.le_refl _) (.cells #[.slice A1 m c1, .bool b, .string x, .string y] 33)
  have C1 : Hid (∀ W, _) := Lib.hid fun W => szIntS_any A1 m c1 left W hm h0 h1
  have C2 : Hid (∀ (l : Int) W, 0 ≤ l → l ≤ 1048576 → _) := Lib.hid fun l W u v => szRatW_any b x y l W hx hy u v
  clear hm hx hy
  go_enter Try.func9, Try.ntmps9
  go_wp2_with (first
    | (go_at_call 16
       refine (C1.out _).mono ?_
       rintro e w1 ⟨r3, rfl, hr3, hb⟩
       have hl3 : r3 ≤ 1048576 := by have := hr3.out; omega
       clear q0 q1 q2 q3 qf
       replace hP := hP.below hb hP.lt
       replace hB := hB.trans (hb.mono hB.size)
       clear hb
       obtain ⟨q0, q1, q2, q3, qf⟩ := hP.fourW)
    | (go_at_call 17
       refine (C2.out _ _ (by omega) (by omega)).mono ?_
       rintro e w2 ⟨r4, rfl, hr4, hb⟩
       replace hB := hB.trans (hb.mono hB.size)
       clear hb))
  all_goals first
    | (go_ret; exact ⟨r4, rfl, Lib.hid ⟨by have := hr4.out; omega, by have := hr3.out; have := hr4.out; omega, fun h => ⟨hr3.out.2.2 (by omega), hr4.out.2.2 h⟩⟩, hB⟩)
    | (go_ret; exact ⟨-1, rfl, Lib.hid ⟨by omega, by omega, fun h => by omega⟩, hB⟩)

set_option maxRecDepth 100000 in
set_option maxHeartbeats 1600000 in
theorem szWtS_any (lo : Nat) (A0 : Option Addr) (n cap : Nat) (wl : Nat → Nat) (wv : Nat → Nat → Int) (wq : Nat → Bool × ByteArray × ByteArray) (left : Int) (w : World) (hn : n ≤ 9223372036854775807) (h0 : 0 ≤ left) (h1 : left ≤ 1048576) (hA : WtAt lo w A0 n wl wv wq) (hs : ∀ j, j < n → wl j ≤ 9223372036854775807 ∧ (wq j).2.1.size ≤ 9223372036854775807 ∧ (wq j).2.2.size ≤ 9223372036854775807) :
    Calls Try.prog 4 #[.slice A0 n cap, .int .i64 left] w (Sz left (n ≤ 1048576 ∧ ∀ j, j < n → wl j ≤ 1048576) w) := by
  have HA := Lib.hid hA; clear hA
  have HS := Lib.hid hs; clear hs
  by_cases h : (n : Int) ≤ left
  · have h2 : ¬ (left - (n : Int) < 0) := by omega
    go_enter Try.func4, Try.ntmps4
    go_wp2_with fail
    all_goals first
      | (exfalso; omega)
      | skip
    go_loopg [1, 5] n (fun q lv iv wr => ∃ (k : Nat) (l : Int), k + q = n ∧ lv = .int .i64 l ∧ iv = .int .i64 (k : Nat) ∧ (0 ≤ l ∧ l ≤ left) ∧ Hid (∀ j, j < k → wl j ≤ 1048576) ∧ Below w.heap.size w wr)
    case atStart => exact ⟨0, left - n, by omega, rfl, rfl, ⟨by omega, by omega⟩, Lib.hid fun j h => by omega, Below.refl _ _⟩
    case round =>
      obtain ⟨k, l, hk, rfl, rfl, ⟨hl0, hl1⟩, hq, hbel⟩ := hrel
      by_cases hk0 : k < n
      · obtain ⟨b, off, A1, c1, rfl, hb, r0, r1, r2, r3, g1⟩ := (HA.out.below hbel (Nat.le_refl _)).at_ hk0
        have C := Lib.hid (szWt_any A1 (wl k) c1 (wq k).1 (wq k).2.1 (wq k).2.2 l wr (HS.out k hk0).1 (HS.out k hk0).2.1 (HS.out k hk0).2.2 hl0 (by omega))
        clear g1
        clear h h2
        go_wp2_with (go_at_call 9; refine C.out.mono ?_; rintro e w1 ⟨r, rfl, hr, hb1⟩; have hB := hbel.trans (hb1.mono hbel.size))
        all_goals first
          | (go_ret; exact ⟨-1, rfl, Lib.hid ⟨by omega, by omega, fun h => by omega⟩, hB⟩)
          | (go_roundg (gk - 1)
             case rel =>
               refine ⟨k + 1, r, by omega, rfl, by go_num, ⟨by omega, by have := hr.out; omega⟩, Lib.hid fun j hj => ?_, hB⟩
               by_cases hjk : j < k
               · exact hq.out j hjk
               · obtain rfl : j = k := by omega
                 exact (hr.out.2.2 (by omega)).1
             case measure => omega)
      · obtain rfl : k = n := by omega
        go_wp2_with fail
        go_ret
        exact ⟨l, rfl, Lib.hid ⟨by omega, hl1, fun _ => ⟨by omega, hq.out⟩⟩, hbel⟩
  · have h2 : left - (n : Int) < 0 := by omega
    go_enter Try.func4, Try.ntmps4
    go_wp2_with fail
    all_goals first
      | (go_ret; exact ⟨-1, rfl, Lib.hid ⟨by omega, by omega, fun h => by omega⟩, Below.refl _ _⟩)
      | (exfalso; omega)

set_option maxRecDepth 100000 in
set_option maxHeartbeats 3200000 in
theorem eqWt_any (lo lo' : Nat) (A0 A1 : Option Addr) (m c0 c1 : Nat) (f : Nat → Int) (b : Bool) (x y : ByteArray) (w : World) (hm : m ≤ 1048576) (h0 : IntsAt lo w A0 m f) (h1 : IntsAt lo' w A1 m f) :
    Calls Try.prog 15 #[.agg #[.slice A0 m c0, .bool b, .string x, .string y], .agg #[.slice A1 m c1, .bool b, .string x, .string y]] w fun e w' => e = .returned (.bool true) ∧ Below w.heap.size w w' := by
  have hP := (Box.new w 36 #[.slice A0 m c0, .bool b, .string x, .string y]).alloc (.cells #[.slice A1 m c1, .bool b, .string x, .string y] 36)
  have hQ := Box.new (w.alloc (.cells #[.slice A0 m c0, .bool b, .string x, .string y] 36)) 36 #[.slice A1 m c1, .bool b, .string x, .string y]
  rw [show (w.alloc (.cells #[.slice A0 m c0, .bool b, .string x, .string y] 36)).heap.size = w.heap.size + 1 by simp] at hQ
  have hB : Below w.heap.size w ((w.alloc (.cells #[.slice A0 m c0, .bool b, .string x, .string y] 36)).alloc (.cells #[.slice A1 m c1, .bool b, .string x, .string y] 36)) := ((Below.refl _ w).alloc (Nat.le_refl _) _).alloc (by simp) _
  obtain ⟨q0, q1, q2, q3, qf⟩ := hP.fourW
  obtain ⟨u0, u1, u2, u3, uf⟩ := hQ.fourW
  have C1 : Hid (∀ W, Below w.heap.size w W → _) := Lib.hid fun W hW => eqIntS_any lo lo' A0 A1 m c0 c1 f W hm (h0.below hW (Nat.le_refl _)) (h1.below hW (Nat.le_refl _))
  have C2 : Hid (∀ W, _) := Lib.hid fun W => eqRatW_any b x y W
  clear hm h0 h1
  go_enter Try.func15, Try.ntmps15
  go_wp2_with (first
    | (go_at_call 20
       with_reducible refine (C1.out _ hB).mono ?_
       rintro e w1 ⟨rfl, hb⟩
       clear q0 q1 q2 q3 qf u0 u1 u2 u3 uf
       replace hP := hP.below hb hP.lt
       replace hQ := hQ.below hb hQ.lt
       replace hB := hB.trans (hb.mono hB.size)
       clear hb
       obtain ⟨q0, q1, q2, q3, qf⟩ := hP.fourW
       obtain ⟨u0, u1, u2, u3, uf⟩ := hQ.fourW)
    | (go_at_call 21
       with_reducible refine (C2.out _).mono ?_
       rintro e w1 ⟨rfl, hb⟩
       replace hB := hB.trans (hb.mono hB.size)
       clear hb))
  go_ret
  exact ⟨rfl, hB⟩

theorem heldE {W W' : World} {p0 p1 p2 p3 p4 p5 p6 p7 : Prop} (h : p0 ∧ p1 ∧ p2 ∧ p3 ∧ p4 ∧ p5 ∧ p6 ∧ p7 ∧ Below W.heap.size W W') : Below W.heap.size W W' := h.2.2.2.2.2.2.2.2

set_option maxRecDepth 100000 in
set_option maxHeartbeats 3200000 in
theorem eqWtS_any (lo lo' : Nat) (A0 A1 : Option Addr) (n c0 c1 : Nat) (wl : Nat → Nat) (wv : Nat → Nat → Int) (wq : Nat → Bool × ByteArray × ByteArray) (w : World) (hn : n ≤ 1048576) (h0 : WtAt lo w A0 n wl wv wq) (h1 : WtAt lo' w A1 n wl wv wq) (hs : ∀ j, j < n → wl j ≤ 1048576) :
    Calls Try.prog 8 #[.slice A0 n c0, .slice A1 n c1] w fun e w' => e = .returned (.bool true) ∧ Below w.heap.size w w' := by
  have H0 := Lib.hid h0; clear h0
  have H1 := Lib.hid h1; clear h1
  have HS := Lib.hid hs; clear hs
  go_enter Try.func8, Try.ntmps8
  go_wp2_with fail
  go_loopg [5] n (fun q iv wr => ∃ k : Nat, k + q = n ∧ iv = .int .i64 (k : Nat) ∧ Below w.heap.size w wr)
  case atStart => exact ⟨0, by omega, rfl, Below.refl _ _⟩
  case round =>
    obtain ⟨k, hk, rfl, hbel⟩ := hrel
    by_cases hk0 : k < n
    · obtain ⟨b, off, A2, c2, rfl, hb, r0, r1, r2, r3, g0⟩ := (H0.out.below hbel (Nat.le_refl _)).at_ hk0
      obtain ⟨b', off', A3, c3, rfl, hb', s0, s1, s2, s3, g1⟩ := (H1.out.below hbel (Nat.le_refl _)).at_ hk0
      have hsk := HS.out k hk0
      have C : Hid (∀ W, Below wr.heap.size wr W → _) := Lib.hid fun W hW => eqWt_any lo lo' A2 A3 (wl k) c2 c3 (wv k) (wq k).1 (wq k).2.1 (wq k).2.2 W hsk (g0.below hW (Nat.le_refl _)) (g1.below hW (Nat.le_refl _))
      clear H0 H1 g0 g1 hsk
      go_upto_region 6 with fail
      go_region_held3 (fun w' => w'.cell? ⟨b, off + k * 4, none⟩ = some (.slice A2 (wl k) c2) ∧ w'.cell? ⟨b, off + k * 4 + 1, none⟩ = some (.bool (wq k).1) ∧ w'.cell? ⟨b, off + k * 4 + 2, none⟩ = some (.string (wq k).2.1) ∧ w'.cell? ⟨b, off + k * 4 + 3, none⟩ = some (.string (wq k).2.2) ∧ w'.cell? ⟨b', off' + k * 4, none⟩ = some (.slice A3 (wl k) c3) ∧ w'.cell? ⟨b', off' + k * 4 + 1, none⟩ = some (.bool (wq k).1) ∧ w'.cell? ⟨b', off' + k * 4 + 2, none⟩ = some (.string (wq k).2.1) ∧ w'.cell? ⟨b', off' + k * 4 + 3, none⟩ = some (.string (wq k).2.2) ∧ Below wr.heap.size wr w')
        ((suffices hB : Below wr.heap.size wr _ from ⟨(hB.cell hb).trans r0, (hB.cell hb).trans r1, (hB.cell hb).trans r2, (hB.cell hb).trans r3, (hB.cell hb').trans s0, (hB.cell hb').trans s1, (hB.cell hb').trans s2, (hB.cell hb').trans s3, hB⟩; first | exact (Below.refl _ wr).drew | exact heldE (by assumption) | (refine stepB (heldE (by assumption)) ?_; assumption)))
        ((go_at_call 15; refine (C.out _ (heldE (by assumption))).mono ?_; rintro e w1 ⟨rfl, hb1⟩))
      all_goals go_wp2_with fail
      go_roundg (gk - 1)
      case rel => exact ⟨k + 1, by omega, by go_num, hbel.trans ((heldE (by assumption)).mono hbel.size)⟩
      case measure => omega
    · obtain rfl : k = n := by omega
      go_wp2_with fail
      go_ret
      exact ⟨rfl, hbel⟩

end Go.Proofs.Ytcjaknojeaoffaa
