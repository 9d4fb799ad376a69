/-
  The cursor over a law's code that the model's drawing functions share: what it hands back, and that it writes nothing but itself.
-/
import Derived.Test.YtlfghhmphgidjaaGreatDoorM1
import Derived.Laws.MakeOwn
import Derived.Deep.LoopGhost
import Derived.Deep.DeepCutAuto
import Derived.Deep.RegionHeld3
namespace Go.Proofs.YtlfghhmphgidjaaGreatDoor
open Go.RowKit Num

/-- Of what there was, only block g may have turned. -/
structure But (g : Nat) (w w' : World) : Prop where
  os : w'.os = w.os
  tape : w'.tape = w.tape
  output : w'.output = w.output
  size : w.heap.size ≤ w'.heap.size
  block : ∀ k, k < w.heap.size → k ≠ g → w'.heap[k]? = w.heap[k]?

theorem But.refl (g : Nat) (w : World) : But g w w := ⟨rfl, rfl, rfl, Nat.le_refl _, fun _ _ _ => rfl⟩
theorem But.trans {g : Nat} {a b c : World} (h : But g a b) (k : But g b c) : But g a c :=
  ⟨k.os.trans h.os, k.tape.trans h.tape, k.output.trans h.output, Nat.le_trans h.size k.size, fun i hi hne => (k.block i (Nat.lt_of_lt_of_le hi h.size) hne).trans (h.block i hi hne)⟩
theorem But.of_below {g : Nat} {w w' : World} (h : Below w.heap.size w w') : But g w w' := ⟨h.os, h.tape, h.output, h.size, fun k hk _ => h.block k hk⟩
theorem But.below {g B : Nat} {w w' : World} (h : But g w w') (hB : B ≤ g) (hg : g ≤ w.heap.size) : Below B w w' := ⟨h.os, h.tape, h.output, h.size, fun k hk => h.block k (by omega) (by omega)⟩
theorem But.step {g : Nat} {w w1 w2 : World} (h : But g w w1) (k : Below w1.heap.size w1 w2) : But g w w2 := h.trans (But.of_below k)
theorem But.drewN {g : Nat} {w w1 : World} (n : Nat) (h : But g w w1) : But g w (w1.drewN n) := h.step (below_drewN n (Below.refl _ _))
theorem But.setCell {g : Nat} {w w1 : World} (h : But g w w1) (i : Nat) (u : Value) : But g w (w1.setCell ⟨g, i, none⟩ u) :=
  ⟨h.os, h.tape, h.output, by simpa [World.setCell] using h.size, fun k hk hne => by
    rw [← h.block k hk hne]
    exact Below.heap_setCell _ _ _ _ hne⟩
theorem Box.but {g b : Nat} {w w' : World} {t : TypeId} {cs : Array Value} (h : Box w b t cs) (k : But g w w') (hne : b ≠ g) : Box w' b t cs := (k.block b h.lt hne).trans h
theorem cell_but {g : Nat} {w w' : World} (k : But g w w') {p : Addr} (hp : p.block < w.heap.size) (hne : p.block ≠ g) : w'.cell? p = w.cell? p := by
  unfold World.cell?
  rw [k.block p.block hp hne]

/-- n bytes that can be read, in a block before g. -/
def BytesAt (w : World) (A : Option Addr) (n g : Nat) : Prop :=
  0 < n → ∃ b off, A = some ⟨b, off, none⟩ ∧ b < g ∧ b < w.heap.size ∧ ∀ j, j < n → ∃ z : Nat, z ≤ 255 ∧ w.cell? ⟨b, off + j, none⟩ = some (.int .u8 z)
theorem BytesAt.but {g : Nat} {w w' : World} {A : Option Addr} {n : Nat} (h : BytesAt w A n g) (k : But g w w') : BytesAt w' A n g := fun h0 => by
  obtain ⟨b, off, rfl, h1, h2, h3⟩ := h h0
  refine ⟨b, off, rfl, h1, Nat.lt_of_lt_of_le h2 k.size, fun j hj => ?_⟩
  obtain ⟨z, hz, hc⟩ := h3 j hj
  exact ⟨z, hz, (cell_but k (p := ⟨b, off + j, none⟩) h2 (by show b ≠ g; omega)).trans hc⟩

/-- A cursor lies in block g, m steps in at most. -/
def Cur (w : World) (g m : Nat) : Prop := ∃ (A : Option Addr) (n c a : Nat) (sd : Int), n ≤ 9223372036854775807 ∧ Box w g 145 #[.slice A n c, .int .i64 (a : Nat), .int .u64 sd] ∧ a ≤ m ∧ BytesAt w A n g
theorem Cur.lt {w : World} {g m : Nat} (h : Cur w g m) : g < w.heap.size := by
  obtain ⟨_, _, _, _, _, _, h, _⟩ := h
  exact h.lt
theorem Cur.step {w w' : World} {g m : Nat} (h : Cur w g m) (k : Below w.heap.size w w') : Cur w' g m := by
  obtain ⟨A, n, c, a, sd, h1, h2, h3, h4⟩ := h
  exact ⟨A, n, c, a, sd, h1, h2.below k h2.lt, h3, h4.but (But.of_below k)⟩
theorem Cur.more {w : World} {g m m' : Nat} (h : Cur w g m) (k : m ≤ m') : Cur w g m' := by
  obtain ⟨A, n, c, a, sd, h1, h2, h3, h4⟩ := h
  exact ⟨A, n, c, a, sd, h1, h2, Nat.le_trans h3 k, h4⟩

/-- A block made since may be written as well. -/
theorem But.new {g H : Nat} {w w1 : World} (h : But g w w1) (hH : w.heap.size ≤ H) (i : Nat) (u : Value) : But g w (w1.setCell ⟨H, i, none⟩ u) :=
  ⟨h.os, h.tape, h.output, by simpa [World.setCell] using h.size, fun k hk hne => by
    rw [← h.block k hk hne]
    exact Below.heap_setCell _ _ _ _ (by show k ≠ H; omega)⟩
theorem But.put3 {g H : Nat} {w w1 : World} (h : But g w w1) (hH : w.heap.size ≤ H) (x y z : Value) : But g w (((w1.setCell ⟨H, 0, none⟩ x).setCell ⟨H, 1, none⟩ y).setCell ⟨H, 2, none⟩ z) := ((h.new hH 0 x).new hH 1 y).new hH 2 z

theorem cell_far {w : World} {H i : Nat} {u : Value} {p : Addr} (hne : p.block ≠ H) : (w.setCell ⟨H, i, none⟩ u).cell? p = w.cell? p := by
  unfold World.cell?
  rw [show (w.setCell ⟨H, i, none⟩ u).heap[p.block]? = w.heap[p.block]? from Below.heap_setCell _ _ _ _ hne]

/-- A store to a later block leaves the cursor as it is. -/
theorem Cur.far {w : World} {g m H i : Nat} {u : Value} (h : Cur w g m) (hne : g < H) : Cur (w.setCell ⟨H, i, none⟩ u) g m := by
  obtain ⟨A, n, c, a, sd, h1, h2, h3, h4⟩ := h
  refine ⟨A, n, c, a, sd, h1, (Below.heap_setCell _ _ _ _ (by show g ≠ H; omega)).trans h2, h3, fun h0 => ?_⟩
  obtain ⟨b, off, rfl, k1, k2, k3⟩ := h4 h0
  refine ⟨b, off, rfl, k1, by simpa [World.setCell] using k2, fun j hj => ?_⟩
  obtain ⟨z, hz, hcz⟩ := k3 j hj
  exact ⟨z, hz, (cell_far (p := ⟨b, off + j, none⟩) (by show b ≠ H; omega)).trans hcz⟩
theorem Cur.put3 {w : World} {g m H : Nat} (h : Cur w g m) (hH : g < H) (x y z : Value) : Cur (((w.setCell ⟨H, 0, none⟩ x).setCell ⟨H, 1, none⟩ y).setCell ⟨H, 2, none⟩ z) g m := ((h.far hH).far hH).far hH

theorem low_byte (x : Int) : ∃ z : Nat, z ≤ 255 ∧ wrap64 (bits BinOp.and IntKind.u64 x 255) = (z : Int) := by
  have h : ((BitVec.ofInt IntKind.u64.bits x) &&& (BitVec.ofInt IntKind.u64.bits 255)).toNat ≤ 255 := by
    rw [BitVec.toNat_and]; exact Nat.le_trans Nat.and_le_right (by decide)
  refine ⟨_, h, ?_⟩
  have e : bits BinOp.and IntKind.u64 x 255 = IntKind.u64.wrap ((((BitVec.ofInt IntKind.u64.bits x) &&& (BitVec.ofInt IntKind.u64.bits 255)).toNat : Nat) : Int) := rfl
  rw [e]
  generalize ((BitVec.ofInt IntKind.u64.bits x) &&& (BitVec.ofInt IntKind.u64.bits 255)).toNat = q at h
  rw [IntWalk.u64_in _ (by omega)]
  unfold wrap64
  omega

set_option maxRecDepth 100000 in
set_option maxHeartbeats 800000 in
theorem cur_next (g m : Nat) (w : World) (hc : Cur w g m) (hm : m ≤ 1000000000000) :
    Calls Tryz.prog 150 #[.pointer (some ⟨g, 0, none⟩)] w fun e w' => (∃ z : Nat, e = .returned (.int .i64 (z : Nat)) ∧ z ≤ 255) ∧ Cur w' g (m + 1) ∧ But g w w' := by
  obtain ⟨A0, n, c, a, sd, hn, hbx, ha, hby⟩ := hc
  obtain ⟨z0, z1, z2, f0, f1, f2⟩ := hbx.three
  have hw1 : IntKind.i64.wrap ((a : Int) + 1) = ((a + 1 : Nat) : Int) := by rw [IntWalk.i64_in _ (by omega)]; omega
  by_cases h : a < n
  · obtain ⟨b, off, rfl, hne, hb, hz⟩ := hby (by omega)
    obtain ⟨z, hz1, hz2⟩ := hz a h
    have hlt : decide ((a : Int) < (n : Int)) = true := decide_eq_true (by omega)
    have hle : decide (((a + 1 : Nat) : Int) ≤ (n : Int)) = true := decide_eq_true (by omega)
    have h1 : (0 : Int) ≤ (a : Int) := by omega
    have h2 : (a : Int) < (n : Int) := by omega
    go_enter Tryz.func150, Tryz.ntmps150
    go_wp2_with fail
    go_quiet (fail)
    go_wp2_with fail
    go_quiet (fail)
    go_upto_region 6 with fail
    generalize hW : World.setCell _ _ _ = W
    have hbx2 : ∃ sd', Box W g 145 #[.slice (some ⟨b, off, none⟩) n c, .int .i64 ((a + 1 : Nat) : Int), .int .u64 sd'] := ⟨_, by rw [← hW]; exact ((hbx.below (below_drewN _ (Below.refl w.heap.size w)) hbx.lt).set 1 _).set 2 _⟩
    have hbt : But g w W := by rw [← hW]; exact ((But.refl g w).drewN _).setCell 1 _ |>.setCell 2 _
    clear hW
    obtain ⟨sd', hbx2⟩ := hbx2
    obtain ⟨y0, y1, y2, _, _, _⟩ := hbx2.three
    go_quiet (fail)
    go_wp2_with fail
    go_ret
    refine ⟨⟨z, rfl, hz1⟩, ⟨_, n, c, a + 1, sd', hn, hbx2.below (below_drewN _ (Below.refl _ W)) hbx2.lt, by omega, (hby.but hbt).but ((But.refl g W).drewN _)⟩, hbt.drewN _⟩
  · have hlt : decide ((a : Int) < (n : Int)) = false := decide_eq_false (by omega)
    have hle : decide (((a + 1 : Nat) : Int) ≤ (n : Int)) = false := decide_eq_false (by omega)
    go_enter Tryz.func150, Tryz.ntmps150
    go_wp2_with fail
    go_quiet (fail)
    go_upto_region 6 with fail
    generalize hW : World.setCell _ _ _ = W
    have hbx2 : ∃ sd', Box W g 145 #[.slice A0 n c, .int .i64 ((a + 1 : Nat) : Int), .int .u64 (IntKind.u64.wrap sd')] := ⟨_, by rw [← hW]; exact ((hbx.below (below_drewN _ (Below.refl w.heap.size w)) hbx.lt).set 1 _).set 2 _⟩
    have hbt : But g w W := by rw [← hW]; exact ((But.refl g w).drewN _).setCell 1 _ |>.setCell 2 _
    clear hW
    obtain ⟨sd', hbx2⟩ := hbx2
    obtain ⟨y0, y1, y2, _, _, _⟩ := hbx2.three
    obtain ⟨z, hz1, hz2⟩ := low_byte (IntKind.u64.wrap sd' / 1099511627776)
    go_quiet (fail)
    go_wp2_with fail
    go_ret
    refine ⟨⟨z, by rw [hz2]; rfl, hz1⟩, ⟨_, n, c, a + 1, _, hn, hbx2.below (below_drewN _ (Below.refl _ W)) hbx2.lt, by omega, (hby.but hbt).but ((But.refl g W).drewN _)⟩, hbt.drewN _⟩

set_option maxRecDepth 100000 in
set_option maxHeartbeats 800000 in
theorem cur_pick (g m : Nat) (k : Nat) (w : World) (hc : Cur w g m) (hm : m ≤ 1000000000000) (hk : 1 ≤ k) (hk2 : k ≤ 200) :
    Calls Tryz.prog 108 #[.pointer (some ⟨g, 0, none⟩), .int .i64 (k : Nat)] w fun e w' => (∃ z : Nat, e = .returned (.int .i64 (z : Nat)) ∧ z < k) ∧ Cur w' g (m + 1) ∧ But g w w' := by
  have C : Hid (∀ (_ : Unit), _) := Lib.hid fun _ => cur_next g m w hc hm
  by_cases h : k = 1
  · subst h
    go_enter Tryz.func108, Tryz.ntmps108
    go_wp2_with fail
    go_ret
    exact ⟨⟨0, rfl, by omega⟩, hc.more (by omega), But.refl g w⟩
  · have h1 : decide ((k : Int) ≤ 1) = false := decide_eq_false (by omega)
    have h2 : decide ((200 : Int) < (k : Int)) = false := decide_eq_false (by omega)
    have h3 : ((k : Int) == 0) = false := by simp; omega
    go_enter Tryz.func108, Tryz.ntmps108
    go_wp2_with (go_at_call 150; refine (C.out ()).mono ?_; rintro e w1 ⟨⟨z, rfl, hz⟩, hc1, hb1⟩)
    go_ret
    exact ⟨⟨z % k, rfl, Nat.mod_lt _ (by omega)⟩, hc1, hb1⟩

set_option maxRecDepth 100000 in
set_option maxHeartbeats 800000 in
theorem cur_one (g m : Nat) (k : Nat) (w : World) (hc : Cur w g m) (hm : m ≤ 1000000000000) (hk : 1 ≤ k) (hk2 : k ≤ 200) :
    Calls Tryz.prog 112 #[.pointer (some ⟨g, 0, none⟩), .int .i64 (k : Nat)] w fun e w' => (∃ b : Bool, e = .returned (.bool b)) ∧ Cur w' g (m + 1) ∧ But g w w' := by
  have C : Hid (∀ (_ : Unit), _) := Lib.hid fun _ => cur_pick g m k w hc hm hk hk2
  go_enter Tryz.func112, Tryz.ntmps112
  go_wp2_with (go_at_call 108; refine (C.out ()).mono ?_; rintro e w1 ⟨⟨z, rfl, hz⟩, hc1, hb1⟩)
  go_ret
  exact ⟨⟨_, rfl⟩, hc1, hb1⟩

/-- A list of k ints (of values) outside block g. -/
def RowAt (w : World) (b off k g : Nat) (V : Nat → Value) : Prop := b ≠ g ∧ b < w.heap.size ∧ ∀ j, j < k → w.cell? ⟨b, off + j, none⟩ = some (V j)

set_option maxRecDepth 100000 in
set_option maxHeartbeats 800000 in
theorem cur_among (g m b off k c : Nat) (F : Nat → Int) (w : World) (hc : Cur w g m) (hm : m ≤ 1000000000000) (hk : 1 ≤ k) (hk2 : k ≤ 200) (hr : RowAt w b off k g fun j => .int .i64 (F j)) :
    Calls Tryz.prog 109 #[.pointer (some ⟨g, 0, none⟩), .slice (some ⟨b, off, none⟩) k c] w fun e w' => (∃ j, j < k ∧ e = .returned (.int .i64 (F j))) ∧ Cur w' g (m + 1) ∧ But g w w' := by
  obtain ⟨h1, h2, h3⟩ := hr
  have C : Hid (∀ (_ : Unit), _) := Lib.hid fun _ => cur_pick g m k w hc hm hk hk2
  go_enter Tryz.func109, Tryz.ntmps109
  go_wp2_with (go_at_call 108; refine (C.out ()).mono ?_; rintro e w1 ⟨⟨z, rfl, hz⟩, hc1, hb1⟩; have hx := (cell_but hb1 (p := ⟨b, off + z, none⟩) h2 h1).trans (h3 z hz); have hz1 : (0 : Int) ≤ (z : Int) := (by omega); have hz2 : (z : Int) < (k : Int) := (by omega))
  go_ret
  exact ⟨⟨z, hz, rfl⟩, hc1, hb1⟩

set_option maxRecDepth 100000 in
set_option maxHeartbeats 800000 in
theorem cur_of (g m b off k c : Nat) (F : Nat → ByteArray) (w : World) (hc : Cur w g m) (hm : m ≤ 1000000000000) (hk : 1 ≤ k) (hk2 : k ≤ 200) (hr : RowAt w b off k g fun j => .string (F j)) :
    Calls Tryz.prog 153 #[.pointer (some ⟨g, 0, none⟩), .slice (some ⟨b, off, none⟩) k c] w fun e w' => (∃ j, j < k ∧ e = .returned (.string (F j))) ∧ Cur w' g (m + 1) ∧ But g w w' := by
  obtain ⟨h1, h2, h3⟩ := hr
  have C : Hid (∀ (_ : Unit), _) := Lib.hid fun _ => cur_pick g m k w hc hm hk hk2
  go_enter Tryz.func153, Tryz.ntmps153
  go_wp2_with (go_at_call 108; refine (C.out ()).mono ?_; rintro e w1 ⟨⟨z, rfl, hz⟩, hc1, hb1⟩; have hx := (cell_but hb1 (p := ⟨b, off + z, none⟩) h2 h1).trans (h3 z hz); have hz1 : (0 : Int) ≤ (z : Int) := (by omega); have hz2 : (z : Int) < (k : Int) := (by omega))
  go_ret
  exact ⟨⟨z, hz, rfl⟩, hc1, hb1⟩

end Go.Proofs.YtlfghhmphgidjaaGreatDoor
