/-
  Several texts in one: DgCb, DgCc, DgCm1, DgCt.
-/
import Derived.Test.YtamjfcckgeakfaaDgBuP
import Derived.Test.YtamjfcckgeakfaaDgRs
import Derived.Laws.BitsLemmas
import Derived.Test.YtamjfcckgeakfaaDgRt
/-
  Decision diagrams, the program: two bits combined.
-/
namespace Go.Proofs.Ytamjfcckgeakfaa
open Go.RowKit Num

theorem bits3 (a b : Nat) (ha : a < 2 ^ 62) (hb : b < 2 ^ 62) : bits .and .i64 a b = ((a &&& b : Nat) : Int) ∧ bits .or .i64 a b = ((a ||| b : Nat) : Int) ∧ bits .xor .i64 a b = ((a ^^^ b : Nat) : Int) := by
  have hw : ∀ n : Int, 0 ≤ n → n < 2 ^ 62 → IntKind.i64.wrap n = n := fun n h0 h1 => IntWalk.i64_in _ (by omega)
  obtain ⟨h1, h2⟩ := bits_nat .i64 62 (by decide) hw a b ha hb
  refine ⟨h1, h2, ?_⟩
  have ha' : a % 2 ^ IntKind.i64.bits = a := Nat.mod_eq_of_lt (Nat.lt_of_lt_of_le ha (by decide))
  have hb' : b % 2 ^ IntKind.i64.bits = b := Nat.mod_eq_of_lt (Nat.lt_of_lt_of_le hb (by decide))
  simp only [bits, BitVec.ofInt_natCast, BitVec.toNat_xor, BitVec.toNat_ofNat, ha', hb']
  exact hw _ (Int.natCast_nonneg _) (by exact_mod_cast Nat.xor_lt_two_pow ha hb)

/-- An operation on two numbers. -/
def gB (op : Nat) (a b : Nat) : Nat := if op = 1 then a &&& b else if op = 2 then a ||| b else a ^^^ b

theorem gB_ok {op : Nat} (h1 : 1 ≤ op) (h3 : op ≤ 3) : ∀ a b, a < 2 → b < 2 → gB op a b < 2 ∧ (gB op a b == 1) = opB op (a == 1) (b == 1) := by
  intro a b ha hb
  have hop : op = 1 ∨ op = 2 ∨ op = 3 := by omega
  have ha2 : a = 0 ∨ a = 1 := by omega
  have hb2 : b = 0 ∨ b = 1 := by omega
  rcases hop with rfl | rfl | rfl <;> rcases ha2 with rfl | rfl <;> rcases hb2 with rfl | rfl <;> decide

theorem cbits_any (op a b : Nat) (w : World) (h1 : 1 ≤ op) (h3 : op ≤ 3) (ha : a < 1048580) (hb : b < 1048580) : Calls Try.prog 82 #[.int .i64 (op : Nat), .int .i64 (a : Nat), .int .i64 (b : Nat)] w fun e w' => e = .returned (.int .i64 (gB op a b : Nat)) ∧ w' = w := by
  obtain ⟨b1, b2, b3⟩ := bits3 a b (Nat.lt_of_lt_of_le ha (by decide)) (Nat.lt_of_lt_of_le hb (by decide))
  have hop : op = 1 ∨ op = 2 ∨ op = 3 := by omega
  unfold gB
  rcases hop with rfl | rfl | rfl
  · rw [if_pos rfl]
    generalize a &&& b = z at b1 ⊢
    go_enter Try.func82, Try.ntmps82
    go_wp2_with fail
    go_ret
    exact ⟨rfl, rfl⟩
  · rw [if_neg (by decide), if_pos rfl]
    generalize a ||| b = z at b2 ⊢
    go_enter Try.func82, Try.ntmps82
    go_wp2_with fail
    go_ret
    exact ⟨rfl, rfl⟩
  · rw [if_neg (by decide), if_neg (by decide)]
    generalize a ^^^ b = z at b3 ⊢
    go_enter Try.func82, Try.ntmps82
    go_wp2_with fail
    go_ret
    exact ⟨rfl, rfl⟩

end Go.Proofs.Ytamjfcckgeakfaa
/-
  Decision diagrams, the program: the references behind a level, of both diagrams.
-/
namespace Go.Proofs.Ytamjfcckgeakfaa
open Go.RowKit Num

/-- What the inner closure's region keeps. -/
structure CcK (Ba Br Bl Bb G Ln : Nat) (A1 A2 : Option Addr) (n1 n2 c1 c2 : Nat) (ro1 ro2 : Int) (r1 r2 l : Nat) (w W : World) : Prop where
  bA : Box W Ba 28 #[.int .i64 (Ln : Nat), .slice A1 n1 c1, .int .i64 ro1]
  bB : Box W Bb 28 #[.int .i64 (Ln : Nat), .slice A2 n2 c2, .int .i64 ro2]
  bS : Box W Br 110 #[.int .i64 (r1 : Nat), .int .i64 (r2 : Nat)]
  bL : Box W Bl 3 #[.int .i64 (l : Nat)]
  bR : ∃ a b, Box W G 110 #[a, b]
  bel : Below w.heap.size w W

theorem Box.put2 {W : World} {G : Nat} {t : TypeId} {a b : Value} (h : Box W G t #[a, b]) (x y : Value) : Box ((W.setCell ⟨G, 0, none⟩ x).setCell ⟨G, 1, none⟩ y) G t #[x, y] := by
  have := (h.set 0 x).set 1 y
  simpa using this

section
variable {Ba Br Bl Bb G Ln : Nat} {A1 A2 : Option Addr} {n1 n2 c1 c2 : Nat} {ro1 ro2 : Int} {r1 r2 l : Nat} {w W W' : World}
theorem CcK.by (hb : Below W.heap.size W W') (h : CcK Ba Br Bl Bb G Ln A1 A2 n1 n2 c1 c2 ro1 ro2 r1 r2 l w W) : CcK Ba Br Bl Bb G Ln A1 A2 n1 n2 c1 c2 ro1 ro2 r1 r2 l w W' :=
  ⟨h.bA.below hb h.bA.lt, h.bB.below hb h.bB.lt, h.bS.below hb h.bS.lt, h.bL.below hb h.bL.lt, (let ⟨a, b, k⟩ := h.bR; ⟨a, b, k.below hb k.lt⟩), h.bel.trans (hb.mono h.bel.size)⟩
theorem CcK.drew (h : CcK Ba Br Bl Bb G Ln A1 A2 n1 n2 c1 c2 ro1 ro2 r1 r2 l w W) : CcK Ba Br Bl Bb G Ln A1 A2 n1 n2 c1 c2 ro1 ro2 r1 r2 l w W.drew := ⟨h.bA, h.bB, h.bS, h.bL, h.bR, h.bel.drew⟩
theorem CcK.put (h : CcK Ba Br Bl Bb G Ln A1 A2 n1 n2 c1 c2 ro1 ro2 r1 r2 l w W) (ha : Ba < G) (hb : Bb < G) (hr : Br < G) (hl : Bl < G) (hw : w.heap.size ≤ G) (x y : Value) : CcK Ba Br Bl Bb G Ln A1 A2 n1 n2 c1 c2 ro1 ro2 r1 r2 l w ((W.setCell ⟨G, 0, none⟩ x).setCell ⟨G, 1, none⟩ y) :=
  ⟨(h.bA.far3 (show G ≠ Ba by omega) 0 x).far3 (show G ≠ Ba by omega) 1 y, (h.bB.far3 (show G ≠ Bb by omega) 0 x).far3 (show G ≠ Bb by omega) 1 y,
    (h.bS.far3 (show G ≠ Br by omega) 0 x).far3 (show G ≠ Br by omega) 1 y, (h.bL.far3 (show G ≠ Bl by omega) 0 x).far3 (show G ≠ Bl by omega) 1 y,
    (let ⟨_, _, k⟩ := h.bR; ⟨x, y, k.put2 x y⟩), (h.bel.setCell (p := ⟨G, 0, none⟩) hw x).setCell (p := ⟨G, 1, none⟩) hw y⟩
theorem CcK.all (h : CcK Ba Br Bl Bb G Ln A1 A2 n1 n2 c1 c2 ro1 ro2 r1 r2 l w W) : W.cell? ⟨Ba, 0, none⟩ = some (.int .i64 (Ln : Nat)) ∧ W.cell? ⟨Ba, 1, none⟩ = some (.slice A1 n1 c1) ∧ W.cell? ⟨Ba, 2, none⟩ = some (.int .i64 ro1) ∧
    W.cell? ⟨Bb, 0, none⟩ = some (.int .i64 (Ln : Nat)) ∧ W.cell? ⟨Bb, 1, none⟩ = some (.slice A2 n2 c2) ∧ W.cell? ⟨Bb, 2, none⟩ = some (.int .i64 ro2) ∧
    W.cell? ⟨Br, 0, none⟩ = some (.int .i64 (r1 : Nat)) ∧ W.cell? ⟨Br, 1, none⟩ = some (.int .i64 (r2 : Nat)) ∧ W.cell? ⟨Bl, 0, none⟩ = some (.int .i64 (l : Nat)) ∧
    W.cell? ⟨G, 0, none⟩ = some (cellW W ⟨G, 0, none⟩) ∧ W.cell? ⟨G, 1, none⟩ = some (cellW W ⟨G, 1, none⟩) ∧
    W.frozen? ⟨G, 0, none⟩ = false ∧ W.frozen? ⟨G, 1, none⟩ = false ∧ CcK Ba Br Bl Bb G Ln A1 A2 n1 n2 c1 c2 ro1 ro2 r1 r2 l w W := by
  obtain ⟨a, b, k⟩ := h.bR
  obtain ⟨k0, k1⟩ := k.duo
  obtain ⟨q0, q1, q2⟩ := h.bA.trio
  obtain ⟨p0, p1, p2⟩ := h.bB.trio
  obtain ⟨s0, s1⟩ := h.bS.duo
  exact ⟨q0, q1, q2, p0, p1, p2, s0, s1, h.bL.cell 0, by unfold cellW; rw [k0]; rfl, by unfold cellW; rw [k1]; rfl, k.free 0, k.free 1, h⟩
end

theorem held14c {p0 p1 p2 p3 p4 p5 p6 p7 p8 p9 pa pb pc K : Prop} (h : p0 ∧ p1 ∧ p2 ∧ p3 ∧ p4 ∧ p5 ∧ p6 ∧ p7 ∧ p8 ∧ p9 ∧ pa ∧ pb ∧ pc ∧ K) : K := h.2.2.2.2.2.2.2.2.2.2.2.2.2

set_option maxRecDepth 100000 in
set_option maxHeartbeats 6400000 in
theorem cc_any (lo1 lo2 Ba Br Bl Bb Ln : Nat) (A1 A2 : Option Addr) (n1 n2 c1 c2 : Nat) (ro1 ro2 : Int) (f1 f2 : Nat → Int) (r1 r2 l : Nat) (bit : Bool) (w : World)
    (hs1 : ShpI (Ln : Int) n1 f1) (hs2 : ShpI (Ln : Int) n2 f2) (hn1 : n1 ≤ 1048576) (hn2 : n2 ≤ 1048576) (hr1 : r1 < n1 + 2) (hr2 : r2 < n2 + 2)
    (hA : Box w Ba 28 #[.int .i64 (Ln : Nat), .slice A1 n1 c1, .int .i64 ro1]) (hB : Box w Bb 28 #[.int .i64 (Ln : Nat), .slice A2 n2 c2, .int .i64 ro2]) (hS : Box w Br 110 #[.int .i64 (r1 : Nat), .int .i64 (r2 : Nat)]) (hL : Box w Bl 3 #[.int .i64 (l : Nat)])
    (h1 : IntsAt lo1 w A1 (n1 * 3) f1) (h2 : IntsAt lo2 w A2 (n2 * 3) f2) :
    Calls Try.prog 81 #[.bool bit, .pointer (some ⟨Ba, 0, none⟩), .pointer (some ⟨Br, 0, none⟩), .pointer (some ⟨Bl, 0, none⟩), .pointer (some ⟨Bb, 0, none⟩)] w fun e w' =>
      e = .returned (.agg #[.int .i64 (Dg.ch (ndl n1 f1) r1 l bit : Nat), .int .i64 (Dg.ch (ndl n2 f2) r2 l bit : Nat)]) ∧ Below w.heap.size w w' := by
  have C1 : Hid (∀ W, Below w.heap.size w W → _) := Lib.hid fun W hW => childAt_all lo1 (Ln : Int) ro1 r1 l bit n1 c1 A1 f1 W hs1 hn1 hr1 (h1.below hW (Nat.le_refl _))
  have C2 : Hid (∀ W, Below w.heap.size w W → _) := Lib.hid fun W hW => childAt_all lo2 (Ln : Int) ro2 r2 l bit n2 c2 A2 f2 W hs2 hn2 hr2 (h2.below hW (Nat.le_refl _))
  generalize Dg.ch (ndl n1 f1) r1 l bit = x at C1 ⊢
  generalize Dg.ch (ndl n2 f2) r2 l bit = y at C2 ⊢
  have HK : Hid (CcK Ba Br Bl Bb w.heap.size Ln A1 A2 n1 n2 c1 c2 ro1 ro2 r1 r2 l w (w.alloc (.cells #[.int .i64 0, .int .i64 0] 110))) :=
    Lib.hid ⟨hA.alloc _, hB.alloc _, hS.alloc _, hL.alloc _, ⟨_, _, Box.new w _ _⟩, (Below.refl _ w).alloc (Nat.le_refl _) _⟩
  have la := hA.lt
  have lb := hB.lt
  have lr := hS.lt
  have ll := hL.lt
  clear hA hB hS hL h1 h2 hs1 hs2 hr1 hr2
  go_enter Try.func81, Try.ntmps81
  go_upto_region 1 with fail
  generalize w.alloc (.cells #[.int .i64 0, .int .i64 0] 110) = W0 at HK ⊢
  obtain ⟨q0, q1, q2, p0, p1, p2, s0, s1, l0, g0, g1, F0, F1, _⟩ := HK.out.all
  go_region_held3 (fun w' => w'.cell? ⟨Ba, 0, none⟩ = some (.int .i64 (Ln : Nat)) ∧ w'.cell? ⟨Ba, 1, none⟩ = some (.slice A1 n1 c1) ∧ w'.cell? ⟨Ba, 2, none⟩ = some (.int .i64 ro1) ∧
      w'.cell? ⟨Bb, 0, none⟩ = some (.int .i64 (Ln : Nat)) ∧ w'.cell? ⟨Bb, 1, none⟩ = some (.slice A2 n2 c2) ∧ w'.cell? ⟨Bb, 2, none⟩ = some (.int .i64 ro2) ∧
      w'.cell? ⟨Br, 0, none⟩ = some (.int .i64 (r1 : Nat)) ∧ w'.cell? ⟨Br, 1, none⟩ = some (.int .i64 (r2 : Nat)) ∧ w'.cell? ⟨Bl, 0, none⟩ = some (.int .i64 (l : Nat)) ∧
      w'.cell? ⟨w.heap.size, 0, none⟩ = some (cellW w' ⟨w.heap.size, 0, none⟩) ∧ w'.cell? ⟨w.heap.size, 1, none⟩ = some (cellW w' ⟨w.heap.size, 1, none⟩) ∧
      w'.frozen? ⟨w.heap.size, 0, none⟩ = false ∧ w'.frozen? ⟨w.heap.size, 1, none⟩ = false ∧ CcK Ba Br Bl Bb w.heap.size Ln A1 A2 n1 n2 c1 c2 ro1 ro2 r1 r2 l w w')
    ((refine CcK.all ?_; first | exact HK.out.drew | exact held14c (by assumption) | exact CcK.by (by assumption) (held14c (by assumption)) | exact CcK.put (held14c (by assumption)) la lb lr ll (Nat.le_refl _) _ _))
    (first
      | (go_at_call 75; with_reducible refine (C1.out _ (CcK.bel (held14c (by assumption)))).mono ?_; rintro e w3 ⟨rfl, hb3⟩)
      | (go_at_call 75; with_reducible refine (C2.out _ (CcK.bel (held14c (by assumption)))).mono ?_; rintro e w4 ⟨rfl, hb4⟩))
  have K3 := CcK.by hb3 HK.out.drew
  have K4 := CcK.by hb4 K3
  obtain ⟨_, _, kR⟩ := K4.bR
  go_wp2_with fail
  obtain ⟨k0, k1⟩ := (kR.put2 (.int .i64 (x : Nat)) (.int .i64 (y : Nat))).duo
  refine bodyPost_ret (v := .agg #[.int .i64 (x : Nat), .int .i64 (y : Nat)]) (by simp [results, Try.results81, go_sem, k0, k1]; done) rfl ?_
  exact ⟨rfl, (K4.put la lb lr ll (Nat.le_refl _) _ _).bel⟩

end Go.Proofs.Ytamjfcckgeakfaa
/-
  Decision diagrams, the program: a combination's closure.
-/
namespace Go.Proofs.Ytamjfcckgeakfaa
open Go.RowKit Num

/-- What the closure's regions keep. -/
structure CmK (Ba Bb Bo Br G Ln : Nat) (A1 A2 : Option Addr) (n1 n2 c1 c2 : Nat) (ro1 ro2 : Int) (op r1 r2 : Nat) (w W : World) : Prop where
  bA : Box W Ba 28 #[.int .i64 (Ln : Nat), .slice A1 n1 c1, .int .i64 ro1]
  bB : Box W Bb 28 #[.int .i64 (Ln : Nat), .slice A2 n2 c2, .int .i64 ro2]
  bO : Box W Bo 3 #[.int .i64 (op : Nat)]
  bS : Box W Br 110 #[.int .i64 (r1 : Nat), .int .i64 (r2 : Nat)]
  bR : ∃ a b d e f g, Box W G 112 #[a, b, d, e, f, g]
  bel : Below w.heap.size w W

section
variable {Ba Bb Bo Br G Ln : Nat} {A1 A2 : Option Addr} {n1 n2 c1 c2 : Nat} {ro1 ro2 : Int} {op r1 r2 : Nat} {w W W' : World}
theorem CmK.by (hb : Below W.heap.size W W') (h : CmK Ba Bb Bo Br G Ln A1 A2 n1 n2 c1 c2 ro1 ro2 op r1 r2 w W) : CmK Ba Bb Bo Br G Ln A1 A2 n1 n2 c1 c2 ro1 ro2 op r1 r2 w W' :=
  ⟨h.bA.below hb h.bA.lt, h.bB.below hb h.bB.lt, h.bO.below hb h.bO.lt, h.bS.below hb h.bS.lt, (let ⟨a, b, d, e, f, g, k⟩ := h.bR; ⟨a, b, d, e, f, g, k.below hb k.lt⟩), h.bel.trans (hb.mono h.bel.size)⟩
theorem CmK.drew (h : CmK Ba Bb Bo Br G Ln A1 A2 n1 n2 c1 c2 ro1 ro2 op r1 r2 w W) : CmK Ba Bb Bo Br G Ln A1 A2 n1 n2 c1 c2 ro1 ro2 op r1 r2 w W.drew := ⟨h.bA, h.bB, h.bO, h.bS, h.bR, h.bel.drew⟩
theorem CmK.alloc (h : CmK Ba Bb Bo Br G Ln A1 A2 n1 n2 c1 c2 ro1 ro2 op r1 r2 w W) (o : Obj) : CmK Ba Bb Bo Br G Ln A1 A2 n1 n2 c1 c2 ro1 ro2 op r1 r2 w (W.alloc o) := CmK.by ((Below.refl _ W).alloc (Nat.le_refl _) o) h
theorem CmK.put1 {p : Nat} (h : CmK Ba Bb Bo Br G Ln A1 A2 n1 n2 c1 c2 ro1 ro2 op r1 r2 w W) (ha : Ba < p) (hb : Bb < p) (ho : Bo < p) (hr : Br < p) (hg : G < p) (hw : w.heap.size ≤ p) (v : Value) : CmK Ba Bb Bo Br G Ln A1 A2 n1 n2 c1 c2 ro1 ro2 op r1 r2 w (W.setCell ⟨p, 0, none⟩ v) :=
  ⟨h.bA.far3 (show p ≠ Ba by omega) 0 v, h.bB.far3 (show p ≠ Bb by omega) 0 v, h.bO.far3 (show p ≠ Bo by omega) 0 v, h.bS.far3 (show p ≠ Br by omega) 0 v, (let ⟨a, b, d, e, f, g, k⟩ := h.bR; ⟨a, b, d, e, f, g, k.far3 (show p ≠ G by omega) 0 v⟩), h.bel.setCell (p := ⟨p, 0, none⟩) hw v⟩
theorem CmK.all (h : CmK Ba Bb Bo Br G Ln A1 A2 n1 n2 c1 c2 ro1 ro2 op r1 r2 w W) : W.cell? ⟨Ba, 0, none⟩ = some (.int .i64 (Ln : Nat)) ∧ W.cell? ⟨Ba, 1, none⟩ = some (.slice A1 n1 c1) ∧ W.cell? ⟨Ba, 2, none⟩ = some (.int .i64 ro1) ∧
    W.cell? ⟨Bb, 0, none⟩ = some (.int .i64 (Ln : Nat)) ∧ W.cell? ⟨Bb, 1, none⟩ = some (.slice A2 n2 c2) ∧ W.cell? ⟨Bb, 2, none⟩ = some (.int .i64 ro2) ∧
    W.cell? ⟨Br, 0, none⟩ = some (.int .i64 (r1 : Nat)) ∧ W.cell? ⟨Br, 1, none⟩ = some (.int .i64 (r2 : Nat)) ∧ CmK Ba Bb Bo Br G Ln A1 A2 n1 n2 c1 c2 ro1 ro2 op r1 r2 w W := by
  obtain ⟨q0, q1, q2⟩ := h.bA.trio
  obtain ⟨p0, p1, p2⟩ := h.bB.trio
  obtain ⟨s0, s1⟩ := h.bS.duo
  exact ⟨q0, q1, q2, p0, p1, p2, s0, s1, h⟩
end

/-- What the last region keeps. -/
structure CmJ (Ba Bb Bo Br G Ln : Nat) (A1 A2 : Option Addr) (n1 n2 c1 c2 : Nat) (ro1 ro2 : Int) (op r1 r2 Pl l : Nat) (w W : World) : Prop where
  k : CmK Ba Bb Bo Br G Ln A1 A2 n1 n2 c1 c2 ro1 ro2 op r1 r2 w W
  bL : Box W Pl 3 #[.int .i64 (l : Nat)]

theorem Box.put6 {W : World} {G : Nat} {t : TypeId} {a b d e f g : Value} (h : Box W G t #[a, b, d, e, f, g]) (x0 x1 x2 x3 x4 x5 : Value) : Box ((((((W.setCell ⟨G, 0, none⟩ x0).setCell ⟨G, 1, none⟩ x1).setCell ⟨G, 2, none⟩ x2).setCell ⟨G, 3, none⟩ x3).setCell ⟨G, 4, none⟩ x4).setCell ⟨G, 5, none⟩ x5) G t #[x0, x1, x2, x3, x4, x5] := by
  have := (((((h.set 0 x0).set 1 x1).set 2 x2).set 3 x3).set 4 x4).set 5 x5
  simpa using this
theorem Box.far6 {W : World} {g G : Nat} {t : TypeId} {cs : Array Value} (h : Box W g t cs) (hne : G ≠ g) (x0 x1 x2 x3 x4 x5 : Value) : Box ((((((W.setCell ⟨G, 0, none⟩ x0).setCell ⟨G, 1, none⟩ x1).setCell ⟨G, 2, none⟩ x2).setCell ⟨G, 3, none⟩ x3).setCell ⟨G, 4, none⟩ x4).setCell ⟨G, 5, none⟩ x5) g t cs :=
  (((((h.far3 hne 0 x0).far3 hne 1 x1).far3 hne 2 x2).far3 hne 3 x3).far3 hne 4 x4).far3 hne 5 x5

section
variable {Ba Bb Bo Br G Ln : Nat} {A1 A2 : Option Addr} {n1 n2 c1 c2 : Nat} {ro1 ro2 : Int} {op r1 r2 Pl l : Nat} {w W W' : World}
theorem CmJ.by (hb : Below W.heap.size W W') (h : CmJ Ba Bb Bo Br G Ln A1 A2 n1 n2 c1 c2 ro1 ro2 op r1 r2 Pl l w W) : CmJ Ba Bb Bo Br G Ln A1 A2 n1 n2 c1 c2 ro1 ro2 op r1 r2 Pl l w W' := ⟨h.k.by hb, h.bL.below hb h.bL.lt⟩
theorem CmJ.drew (h : CmJ Ba Bb Bo Br G Ln A1 A2 n1 n2 c1 c2 ro1 ro2 op r1 r2 Pl l w W) : CmJ Ba Bb Bo Br G Ln A1 A2 n1 n2 c1 c2 ro1 ro2 op r1 r2 Pl l w W.drew := ⟨h.k.drew, h.bL⟩
theorem CmJ.put (h : CmJ Ba Bb Bo Br G Ln A1 A2 n1 n2 c1 c2 ro1 ro2 op r1 r2 Pl l w W) (ha : Ba < G) (hb : Bb < G) (ho : Bo < G) (hr : Br < G) (hp : G < Pl) (hw : w.heap.size ≤ G) (x0 x1 x2 x3 x4 x5 : Value) : CmJ Ba Bb Bo Br G Ln A1 A2 n1 n2 c1 c2 ro1 ro2 op r1 r2 Pl l w ((((((W.setCell ⟨G, 0, none⟩ x0).setCell ⟨G, 1, none⟩ x1).setCell ⟨G, 2, none⟩ x2).setCell ⟨G, 3, none⟩ x3).setCell ⟨G, 4, none⟩ x4).setCell ⟨G, 5, none⟩ x5) :=
  ⟨⟨h.k.bA.far6 (show G ≠ Ba by omega) .., h.k.bB.far6 (show G ≠ Bb by omega) .., h.k.bO.far6 (show G ≠ Bo by omega) .., h.k.bS.far6 (show G ≠ Br by omega) .., (let ⟨_, _, _, _, _, _, q⟩ := h.k.bR; ⟨x0, x1, x2, x3, x4, x5, q.put6 ..⟩),
    (((((h.k.bel.setCell (p := ⟨G, 0, none⟩) hw x0).setCell (p := ⟨G, 1, none⟩) hw x1).setCell (p := ⟨G, 2, none⟩) hw x2).setCell (p := ⟨G, 3, none⟩) hw x3).setCell (p := ⟨G, 4, none⟩) hw x4).setCell (p := ⟨G, 5, none⟩) hw x5⟩, h.bL.far6 (show G ≠ Pl by omega) ..⟩
theorem CmJ.all (h : CmJ Ba Bb Bo Br G Ln A1 A2 n1 n2 c1 c2 ro1 ro2 op r1 r2 Pl l w W) : W.cell? ⟨Pl, 0, none⟩ = some (.int .i64 (l : Nat)) ∧ W.cell? ⟨Bo, 0, none⟩ = some (.int .i64 (op : Nat)) ∧ W.cell? ⟨Br, 0, none⟩ = some (.int .i64 (r1 : Nat)) ∧ W.cell? ⟨Br, 1, none⟩ = some (.int .i64 (r2 : Nat)) ∧
    W.cell? ⟨G, 0, none⟩ = some (cellW W ⟨G, 0, none⟩) ∧ W.cell? ⟨G, 1, none⟩ = some (cellW W ⟨G, 1, none⟩) ∧ W.cell? ⟨G, 2, none⟩ = some (cellW W ⟨G, 2, none⟩) ∧ W.cell? ⟨G, 3, none⟩ = some (cellW W ⟨G, 3, none⟩) ∧ W.cell? ⟨G, 4, none⟩ = some (cellW W ⟨G, 4, none⟩) ∧ W.cell? ⟨G, 5, none⟩ = some (cellW W ⟨G, 5, none⟩) ∧
    W.frozen? ⟨G, 0, none⟩ = false ∧ W.frozen? ⟨G, 1, none⟩ = false ∧ W.frozen? ⟨G, 2, none⟩ = false ∧ W.frozen? ⟨G, 3, none⟩ = false ∧ W.frozen? ⟨G, 4, none⟩ = false ∧ W.frozen? ⟨G, 5, none⟩ = false ∧ CmJ Ba Bb Bo Br G Ln A1 A2 n1 n2 c1 c2 ro1 ro2 op r1 r2 Pl l w W := by
  obtain ⟨a, b, d, e, f, g, q⟩ := h.k.bR
  obtain ⟨k0, k1, k2, k3, k4, k5⟩ := q.hexa
  obtain ⟨s0, s1⟩ := h.k.bS.duo
  exact ⟨h.bL.cell 0, h.k.bO.cell 0, s0, s1, by unfold cellW; rw [k0]; rfl, by unfold cellW; rw [k1]; rfl, by unfold cellW; rw [k2]; rfl, by unfold cellW; rw [k3]; rfl, by unfold cellW; rw [k4]; rfl, by unfold cellW; rw [k5]; rfl, q.free 0, q.free 1, q.free 2, q.free 3, q.free 4, q.free 5, h⟩
end

theorem held17j {p0 p1 p2 p3 p4 p5 p6 p7 p8 p9 pa pb pc pd pe pf K : Prop} (h : p0 ∧ p1 ∧ p2 ∧ p3 ∧ p4 ∧ p5 ∧ p6 ∧ p7 ∧ p8 ∧ p9 ∧ pa ∧ pb ∧ pc ∧ pd ∧ pe ∧ pf ∧ K) : K := h.2.2.2.2.2.2.2.2.2.2.2.2.2.2.2.2

theorem held9m {p0 p1 p2 p3 p4 p5 p6 p7 K : Prop} (h : p0 ∧ p1 ∧ p2 ∧ p3 ∧ p4 ∧ p5 ∧ p6 ∧ p7 ∧ K) : K := h.2.2.2.2.2.2.2.2

set_option maxRecDepth 100000 in
set_option maxHeartbeats 6400000 in
theorem cm_any (lo1 lo2 Ba Bb Bo Ln : Nat) (A1 A2 : Option Addr) (n1 n2 c1 c2 : Nat) (ro1 ro2 : Int) (f1 f2 : Nat → Int) (op r1 r2 : Nat) (w : World)
    (hs1 : ShpI (Ln : Int) n1 f1) (hs2 : ShpI (Ln : Int) n2 f2) (hn1 : n1 ≤ 1048576) (hn2 : n2 ≤ 1048576) (hr1 : r1 < n1 + 2) (hr2 : r2 < n2 + 2) (ho1 : 1 ≤ op) (ho3 : op ≤ 3)
    (hA : Box w Ba 28 #[.int .i64 (Ln : Nat), .slice A1 n1 c1, .int .i64 ro1]) (hB : Box w Bb 28 #[.int .i64 (Ln : Nat), .slice A2 n2 c2, .int .i64 ro2]) (hO : Box w Bo 3 #[.int .i64 (op : Nat)])
    (h1 : IntsAt lo1 w A1 (n1 * 3) f1) (h2 : IntsAt lo2 w A2 (n2 * 3) f2) :
    Calls Try.prog 80 #[.agg #[.int .i64 (r1 : Nat), .int .i64 (r2 : Nat)], .pointer (some ⟨Ba, 0, none⟩), .pointer (some ⟨Bb, 0, none⟩), .pointer (some ⟨Bo, 0, none⟩)] w fun e w' =>
      e = .returned (.agg #[.int .i64 (min (Dg.lvl (ndl n1 f1) Ln r1) (Dg.lvl (ndl n2 f2) Ln r2) : Nat), .int .i64 (Dg.ch (ndl n1 f1) r1 (min (Dg.lvl (ndl n1 f1) Ln r1) (Dg.lvl (ndl n2 f2) Ln r2)) false : Nat), .int .i64 (Dg.ch (ndl n2 f2) r2 (min (Dg.lvl (ndl n1 f1) Ln r1) (Dg.lvl (ndl n2 f2) Ln r2)) false : Nat),
        .int .i64 (Dg.ch (ndl n1 f1) r1 (min (Dg.lvl (ndl n1 f1) Ln r1) (Dg.lvl (ndl n2 f2) Ln r2)) true : Nat), .int .i64 (Dg.ch (ndl n2 f2) r2 (min (Dg.lvl (ndl n1 f1) Ln r1) (Dg.lvl (ndl n2 f2) Ln r2)) true : Nat), .int .i64 (gB op r1 r2 : Nat)]) ∧ Below w.heap.size w w' := by
  have C1 : Hid (∀ W, Below w.heap.size w W → _) := Lib.hid fun W hW => levelAt_any lo1 (Ln : Int) ro1 (r1 : Int) n1 c1 A1 f1 W hn1 (by omega) (by omega) (h1.below hW (Nat.le_refl _))
  have C2 : Hid (∀ W, Below w.heap.size w W → _) := Lib.hid fun W hW => levelAt_any lo2 (Ln : Int) ro2 (r2 : Int) n2 c2 A2 f2 W hn2 (by omega) (by omega) (h2.below hW (Nat.le_refl _))
  rw [lvI_lvl hs1 hr1] at C1
  rw [lvI_lvl hs2 hr2] at C2
  generalize Dg.lvl (ndl n1 f1) Ln r1 = l1 at C1 ⊢
  generalize Dg.lvl (ndl n2 f2) Ln r2 = l2 at C2 ⊢
  have CC : Hid (∀ (bit : Bool) (Br Bl : Nat) W, Below w.heap.size w W → Box W Ba 28 #[.int .i64 (Ln : Nat), .slice A1 n1 c1, .int .i64 ro1] → Box W Bb 28 #[.int .i64 (Ln : Nat), .slice A2 n2 c2, .int .i64 ro2] → Box W Br 110 #[.int .i64 (r1 : Nat), .int .i64 (r2 : Nat)] → Box W Bl 3 #[.int .i64 (min l1 l2 : Nat)] → _) :=
    Lib.hid fun bit Br Bl W hW x1 x2 x3 x4 => cc_any lo1 lo2 Ba Br Bl Bb Ln A1 A2 n1 n2 c1 c2 ro1 ro2 f1 f2 r1 r2 (min l1 l2) bit W hs1 hs2 hn1 hn2 hr1 hr2 x1 x2 x3 x4 (h1.below hW (Nat.le_refl _)) (h2.below hW (Nat.le_refl _))
  have CB : Hid (∀ W, _) := Lib.hid fun W => cbits_any op r1 r2 W ho1 ho3 (by omega) (by omega)
  have hmin : min ((l1 : Nat) : Int) ((l2 : Nat) : Int) = ((min l1 l2 : Nat) : Int) := by omega
  have HK : Hid (CmK Ba Bb Bo w.heap.size (w.heap.size + 1) Ln A1 A2 n1 n2 c1 c2 ro1 ro2 op r1 r2 w ((w.alloc (.cells #[.int .i64 (r1 : Nat), .int .i64 (r2 : Nat)] 110)).alloc (.cells #[.int .i64 0, .int .i64 0, .int .i64 0, .int .i64 0, .int .i64 0, .int .i64 0] 112))) :=
    Lib.hid ⟨(hA.alloc _).alloc _, (hB.alloc _).alloc _, (hO.alloc _).alloc _, (Box.new w _ _).alloc _, ⟨_, _, _, _, _, _, by have := Box.new (w.alloc (.cells #[.int .i64 (r1 : Nat), .int .i64 (r2 : Nat)] 110)) 112 #[.int .i64 0, .int .i64 0, .int .i64 0, .int .i64 0, .int .i64 0, .int .i64 0]; rwa [show (w.alloc (.cells #[.int .i64 (r1 : Nat), .int .i64 (r2 : Nat)] 110)).heap.size = w.heap.size + 1 by simp] at this⟩, ((Below.refl _ w).alloc (Nat.le_refl _) _).alloc (by simp) _⟩
  have la := hA.lt
  have lb := hB.lt
  have lo := hO.lt
  clear hA hB hO h1 h2 hs1 hs2 hr1 hr2 ho1 ho3
  go_enter Try.func80, Try.ntmps80
  have hz0 : ((w.alloc (.cells #[.int .i64 (r1 : Nat), .int .i64 (r2 : Nat)] 110)).alloc (.cells #[.int .i64 0, .int .i64 0, .int .i64 0, .int .i64 0, .int .i64 0, .int .i64 0] 112)).heap.size = w.heap.size + 1 + 1 := by simp
  go_upto_region 1 with fail
  generalize (w.alloc (.cells #[.int .i64 (r1 : Nat), .int .i64 (r2 : Nat)] 110)).alloc (.cells #[.int .i64 0, .int .i64 0, .int .i64 0, .int .i64 0, .int .i64 0, .int .i64 0] 112) = W0 at HK hz0 ⊢
  obtain ⟨q0, q1, q2, p0, p1, p2, s0, s1, _⟩ := HK.out.all
  go_cut [6] (fun v wx => ∃ Pl, v = .pointer (some ⟨Pl, 0, none⟩) ∧ w.heap.size + 1 < Pl ∧ Box wx Pl 3 #[.int .i64 (min l1 l2 : Nat)] ∧ CmK Ba Bb Bo w.heap.size (w.heap.size + 1) Ln A1 A2 n1 n2 c1 c2 ro1 ro2 op r1 r2 w wx)
  case first =>
    refine wp_region_held_drew (S := (fun w' => w'.cell? ⟨Ba, 0, none⟩ = some (.int .i64 (Ln : Nat)) ∧ w'.cell? ⟨Ba, 1, none⟩ = some (.slice A1 n1 c1) ∧ w'.cell? ⟨Ba, 2, none⟩ = some (.int .i64 ro1) ∧ w'.cell? ⟨Bb, 0, none⟩ = some (.int .i64 (Ln : Nat)) ∧ w'.cell? ⟨Bb, 1, none⟩ = some (.slice A2 n2 c2) ∧ w'.cell? ⟨Bb, 2, none⟩ = some (.int .i64 ro2) ∧ w'.cell? ⟨w.heap.size, 0, none⟩ = some (.int .i64 (r1 : Nat)) ∧ w'.cell? ⟨w.heap.size, 1, none⟩ = some (.int .i64 (r2 : Nat)) ∧ CmK Ba Bb Bo w.heap.size (w.heap.size + 1) Ln A1 A2 n1 n2 c1 c2 ro1 ro2 op r1 r2 w w')) (by kernel_rfl) ?_ (fun hHeld => ?_)
    · (try dsimp only); (refine CmK.all ?_; first | exact HK.out.drew | exact held9m (by assumption) | exact CmK.by (by assumption) (held9m (by assumption)) | exact CmK.alloc (held9m (by assumption)) _ | exact CmK.put1 (held9m (by assumption)) (by omega) (by omega) (by omega) (by omega) (by omega) (by omega) _)
    refine wpAnyH_take (i := 0) (v := .agg #[.int .i64 (Ln : Nat), .slice A1 n1 c1, .int .i64 ro1]) rfl (by kernel_rfl) (by kernel_rfl) (by kernel_rfl) (fun _ _ _ h => h) (Or.inl ⟨by rfl, ?_⟩) (by assumption) ?_
    · intro w' hSw; (try dsimp only at hSw); go_simp
    (try simp only [Act.put, List.getElem_toArray, List.getElem_cons_zero, List.setIfInBounds_toArray, List.set_cons_zero, List.set_cons_succ])
    refine wpAnyH_take (i := 1) (v := .pointer (some ⟨w.heap.size, 0, none⟩)) rfl (by kernel_rfl) (by kernel_rfl) (by kernel_rfl) (fun _ _ _ h => h) (Or.inl ⟨by rfl, ?_⟩) (by assumption) ?_
    · intro w' hSw; (try dsimp only at hSw); go_simp
    (try simp only [Act.put, List.getElem_toArray, List.getElem_cons_zero, List.getElem_cons_succ, List.setIfInBounds_toArray, List.set_cons_zero, List.set_cons_succ])
    refine wpAnyH_take (i := 2) (v := .int .i64 (r1 : Nat)) rfl (by kernel_rfl) (by kernel_rfl) (by kernel_rfl) (fun _ _ _ h => h) (Or.inl ⟨by rfl, ?_⟩) (by assumption) ?_
    · intro w' hSw; (try dsimp only at hSw); go_simp
    (try simp only [Act.put, List.getElem_toArray, List.getElem_cons_zero, List.getElem_cons_succ, List.setIfInBounds_toArray, List.set_cons_zero, List.set_cons_succ])
    refine wpAnyH_take (i := 4) (v := .agg #[.int .i64 (Ln : Nat), .slice A2 n2 c2, .int .i64 ro2]) rfl (by kernel_rfl) (by kernel_rfl) (by kernel_rfl) (fun _ _ _ h => h) (Or.inl ⟨by rfl, ?_⟩) (by assumption) ?_
    · intro w' hSw; (try dsimp only at hSw); go_simp
    (try simp only [Act.put, List.getElem_toArray, List.getElem_cons_zero, List.getElem_cons_succ, List.setIfInBounds_toArray, List.set_cons_zero, List.set_cons_succ])
    refine wpAnyH_take (i := 5) (v := .pointer (some ⟨w.heap.size, 1, none⟩)) rfl (by kernel_rfl) (by kernel_rfl) (by kernel_rfl) (fun _ _ _ h => h) (Or.inl ⟨by rfl, ?_⟩) (by assumption) ?_
    · intro w' hSw; (try dsimp only at hSw); go_simp
    (try simp only [Act.put, List.getElem_toArray, List.getElem_cons_zero, List.getElem_cons_succ, List.setIfInBounds_toArray, List.set_cons_zero, List.set_cons_succ])
    refine wpAnyH_take (i := 6) (v := .int .i64 (r2 : Nat)) rfl (by kernel_rfl) (by kernel_rfl) (by kernel_rfl) (fun _ _ _ h => h) (Or.inl ⟨by rfl, ?_⟩) (by assumption) ?_
    · intro w' hSw; (try dsimp only at hSw); go_simp
    (try simp only [Act.put, List.getElem_toArray, List.getElem_cons_zero, List.getElem_cons_succ, List.setIfInBounds_toArray, List.set_cons_zero, List.set_cons_succ])
    refine wpAnyH_ready (rs := [3, 9]) (by kernel_rfl) (by simp) ?_
    refine (AllReadyH.cons rfl (fun K hK => ?_) (AllReadyH.cons rfl (fun K hK => ?_) AllReadyH.nil))
    · -- the first call
      go_simp
      go_wp2_with (go_at_call 76; (with_reducible refine (C1.out _ (CmK.bel (held9m (by assumption)))).mono ?_); rintro e w3 ⟨rfl, hb3⟩; have hz3 : W0.heap.size ≤ w3.heap.size := (by first | exact hb3.size | (refine Nat.le_trans (Nat.le_of_lt ?_) hb3.size; show W0.heap.size < (W0.heap.push _).size; rw [Array.size_push]; exact Nat.lt_succ_self _)))
      refine hK.out _ _ ?_ (fun hHeld => ?_)
      · (try dsimp only); (refine CmK.all ?_; first | exact HK.out.drew | exact held9m (by assumption) | exact CmK.by (by assumption) (held9m (by assumption)) | exact CmK.alloc (held9m (by assumption)) _ | exact CmK.put1 (held9m (by assumption)) (by omega) (by omega) (by omega) (by omega) (by omega) (by omega) _)
      clear hK K
      (try simp only [Act.put, List.getElem_toArray, List.getElem_cons_zero, List.getElem_cons_succ, List.setIfInBounds_toArray, List.set_cons_zero, List.set_cons_succ])
      refine wpAnyH_ready (rs := [7, 9]) (by kernel_rfl) (by simp) ?_
      refine (AllReadyH.cons rfl (fun K hK => ?_) (AllReadyH.cons rfl (fun K hK => ?_) AllReadyH.nil))
      · -- the second call
        go_simp
        go_wp2_with (go_at_call 76; (with_reducible refine (C2.out _ (CmK.bel (held9m (by assumption)))).mono ?_); rintro e w4 ⟨rfl, hb4⟩; have hz4 : w3.heap.size ≤ w4.heap.size := (by first | exact hb4.size | (refine Nat.le_trans (Nat.le_of_lt ?_) hb4.size; show w3.heap.size < (w3.heap.push _).size; rw [Array.size_push]; exact Nat.lt_succ_self _)))
        refine hK.out _ _ ?_ (fun hHeld => ?_)
        · (try dsimp only); (refine CmK.all ?_; first | exact HK.out.drew | exact held9m (by assumption) | exact CmK.by (by assumption) (held9m (by assumption)) | exact CmK.alloc (held9m (by assumption)) _ | exact CmK.put1 (held9m (by assumption)) (by omega) (by omega) (by omega) (by omega) (by omega) (by omega) _)
        clear hK K
        (try simp only [Act.put, List.getElem_toArray, List.getElem_cons_zero, List.getElem_cons_succ, List.setIfInBounds_toArray, List.set_cons_zero, List.set_cons_succ])
        refine wpAnyH_take (i := 8) (v := .int .i64 (min l1 l2 : Nat)) rfl (by kernel_rfl) (by kernel_rfl) (by kernel_rfl) (fun _ _ _ h => h) (Or.inl ⟨by rfl, ?_⟩) (by assumption) ?_
        · intro w' hSw; (try dsimp only at hSw); go_simp
        (try simp only [Act.put, List.getElem_toArray, List.getElem_cons_zero, List.getElem_cons_succ, List.setIfInBounds_toArray, List.set_cons_zero, List.set_cons_succ])
        refine wpAnyH_ready (rs := [9]) (by kernel_rfl) (by simp) ?_
        refine (AllReadyH.cons rfl (fun K hK => ?_) AllReadyH.nil)
        go_simp
        (try go_wp2_with fail)
        refine hK.out _ _ ?_ (fun hHeld => ?_)
        · (try dsimp only); (refine CmK.all ?_; first | exact HK.out.drew | exact held9m (by assumption) | exact CmK.by (by assumption) (held9m (by assumption)) | exact CmK.alloc (held9m (by assumption)) _ | exact CmK.put1 (held9m (by assumption)) (by omega) (by omega) (by omega) (by omega) (by omega) (by omega) _)
        clear hK K
        (try simp only [Act.put, List.getElem_toArray, List.getElem_cons_zero, List.getElem_cons_succ, List.setIfInBounds_toArray, List.set_cons_zero, List.set_cons_succ])
        refine wpAnyH_ready (rs := [10]) (by kernel_rfl) (by simp) ?_
        refine (AllReadyH.cons rfl (fun K hK => ?_) AllReadyH.nil)
        go_simp
        (try go_wp2_with fail)
        refine hK.out _ _ ?_ (fun hHeld => ?_)
        · (try dsimp only); (refine CmK.all ?_; first | exact HK.out.drew | exact held9m (by assumption) | exact CmK.by (by assumption) (held9m (by assumption)) | exact CmK.alloc (held9m (by assumption)) _ | exact CmK.put1 (held9m (by assumption)) (by omega) (by omega) (by omega) (by omega) (by omega) (by omega) _)
        clear hK K
        (try simp only [Act.put, List.getElem_toArray, List.getElem_cons_zero, List.getElem_cons_succ, List.setIfInBounds_toArray, List.set_cons_zero, List.set_cons_succ])
        refine wpAnyH_done (by kernel_rfl) ?_ _
        go_wp2_with fail
        go_meet
        exact ⟨_, rfl, by omega, Box.new w4 _ _, held9m (by assumption)⟩
      · -- the variable
        go_simp
        (try go_wp2_with fail)
        refine hK.out _ _ ?_ (fun hHeld => ?_)
        · (try dsimp only); (refine CmK.all ?_; first | exact HK.out.drew | exact held9m (by assumption) | exact CmK.by (by assumption) (held9m (by assumption)) | exact CmK.alloc (held9m (by assumption)) _ | exact CmK.put1 (held9m (by assumption)) (by omega) (by omega) (by omega) (by omega) (by omega) (by omega) _)
        clear hK K
        have hX := Box.new w3 3 #[.int .i64 0]
        (try simp only [Act.put, List.getElem_toArray, List.getElem_cons_zero, List.getElem_cons_succ, List.setIfInBounds_toArray, List.set_cons_zero, List.set_cons_succ])
        refine wpAnyH_ready (rs := [7]) (by kernel_rfl) (by simp) ?_
        refine (AllReadyH.cons rfl (fun K hK => ?_) AllReadyH.nil)
        go_simp
        go_wp2_with (go_at_call 76; (with_reducible refine (C2.out _ (CmK.bel (held9m (by assumption)))).mono ?_); rintro e w4 ⟨rfl, hb4⟩; have hz4 : w3.heap.size ≤ w4.heap.size := (by first | exact hb4.size | (refine Nat.le_trans (Nat.le_of_lt ?_) hb4.size; show w3.heap.size < (w3.heap.push _).size; rw [Array.size_push]; exact Nat.lt_succ_self _)))
        refine hK.out _ _ ?_ (fun hHeld => ?_)
        · (try dsimp only); (refine CmK.all ?_; first | exact HK.out.drew | exact held9m (by assumption) | exact CmK.by (by assumption) (held9m (by assumption)) | exact CmK.alloc (held9m (by assumption)) _ | exact CmK.put1 (held9m (by assumption)) (by omega) (by omega) (by omega) (by omega) (by omega) (by omega) _)
        clear hK K
        replace hX := hX.below hb4 hX.lt; have x0 := hX.cell 0; have xf := hX.free 0
        (try simp only [Act.put, List.getElem_toArray, List.getElem_cons_zero, List.getElem_cons_succ, List.setIfInBounds_toArray, List.set_cons_zero, List.set_cons_succ])
        refine wpAnyH_take (i := 8) (v := .int .i64 (min l1 l2 : Nat)) rfl (by kernel_rfl) (by kernel_rfl) (by kernel_rfl) (fun _ _ _ h => h) (Or.inl ⟨by rfl, ?_⟩) (by assumption) ?_
        · intro w' hSw; (try dsimp only at hSw); go_simp
        (try simp only [Act.put, List.getElem_toArray, List.getElem_cons_zero, List.getElem_cons_succ, List.setIfInBounds_toArray, List.set_cons_zero, List.set_cons_succ])
        refine wpAnyH_ready (rs := [10]) (by kernel_rfl) (by simp) ?_
        refine (AllReadyH.cons rfl (fun K hK => ?_) AllReadyH.nil)
        go_simp
        (try go_wp2_with fail)
        refine hK.out _ _ ?_ (fun hHeld => ?_)
        · (try dsimp only); (refine CmK.all ?_; first | exact HK.out.drew | exact held9m (by assumption) | exact CmK.by (by assumption) (held9m (by assumption)) | exact CmK.alloc (held9m (by assumption)) _ | exact CmK.put1 (held9m (by assumption)) (by omega) (by omega) (by omega) (by omega) (by omega) (by omega) _)
        clear hK K
        (try simp only [Act.put, List.getElem_toArray, List.getElem_cons_zero, List.getElem_cons_succ, List.setIfInBounds_toArray, List.set_cons_zero, List.set_cons_succ])
        refine wpAnyH_done (by kernel_rfl) ?_ _
        go_wp2_with fail
        go_meet
        exact ⟨_, rfl, by omega, hX.set 0 _, held9m (by assumption)⟩
    · -- the variable
      go_simp
      (try go_wp2_with fail)
      refine hK.out _ _ ?_ (fun hHeld => ?_)
      · (try dsimp only); (refine CmK.all ?_; first | exact HK.out.drew | exact held9m (by assumption) | exact CmK.by (by assumption) (held9m (by assumption)) | exact CmK.alloc (held9m (by assumption)) _ | exact CmK.put1 (held9m (by assumption)) (by omega) (by omega) (by omega) (by omega) (by omega) (by omega) _)
      clear hK K
      have hX := Box.new W0.drew 3 #[.int .i64 0]; rw [show W0.drew.heap.size = w.heap.size + 1 + 1 from hz0] at hX
      (try simp only [Act.put, List.getElem_toArray, List.getElem_cons_zero, List.getElem_cons_succ, List.setIfInBounds_toArray, List.set_cons_zero, List.set_cons_succ])
      refine wpAnyH_ready (rs := [3]) (by kernel_rfl) (by simp) ?_
      refine (AllReadyH.cons rfl (fun K hK => ?_) AllReadyH.nil)
      go_simp
      go_wp2_with (go_at_call 76; (with_reducible refine (C1.out _ (CmK.bel (held9m (by assumption)))).mono ?_); rintro e w3 ⟨rfl, hb3⟩; have hz3 : W0.heap.size ≤ w3.heap.size := (by first | exact hb3.size | (refine Nat.le_trans (Nat.le_of_lt ?_) hb3.size; show W0.heap.size < (W0.heap.push _).size; rw [Array.size_push]; exact Nat.lt_succ_self _)))
      refine hK.out _ _ ?_ (fun hHeld => ?_)
      · (try dsimp only); (refine CmK.all ?_; first | exact HK.out.drew | exact held9m (by assumption) | exact CmK.by (by assumption) (held9m (by assumption)) | exact CmK.alloc (held9m (by assumption)) _ | exact CmK.put1 (held9m (by assumption)) (by omega) (by omega) (by omega) (by omega) (by omega) (by omega) _)
      clear hK K
      replace hX := hX.below hb3 hX.lt
      (try simp only [Act.put, List.getElem_toArray, List.getElem_cons_zero, List.getElem_cons_succ, List.setIfInBounds_toArray, List.set_cons_zero, List.set_cons_succ])
      refine wpAnyH_ready (rs := [7]) (by kernel_rfl) (by simp) ?_
      refine (AllReadyH.cons rfl (fun K hK => ?_) AllReadyH.nil)
      go_simp
      go_wp2_with (go_at_call 76; (with_reducible refine (C2.out _ (CmK.bel (held9m (by assumption)))).mono ?_); rintro e w4 ⟨rfl, hb4⟩; have hz4 : w3.heap.size ≤ w4.heap.size := (by first | exact hb4.size | (refine Nat.le_trans (Nat.le_of_lt ?_) hb4.size; show w3.heap.size < (w3.heap.push _).size; rw [Array.size_push]; exact Nat.lt_succ_self _)))
      refine hK.out _ _ ?_ (fun hHeld => ?_)
      · (try dsimp only); (refine CmK.all ?_; first | exact HK.out.drew | exact held9m (by assumption) | exact CmK.by (by assumption) (held9m (by assumption)) | exact CmK.alloc (held9m (by assumption)) _ | exact CmK.put1 (held9m (by assumption)) (by omega) (by omega) (by omega) (by omega) (by omega) (by omega) _)
      clear hK K
      replace hX := hX.below hb4 hX.lt; have x0 := hX.cell 0; have xf := hX.free 0
      (try simp only [Act.put, List.getElem_toArray, List.getElem_cons_zero, List.getElem_cons_succ, List.setIfInBounds_toArray, List.set_cons_zero, List.set_cons_succ])
      refine wpAnyH_take (i := 8) (v := .int .i64 (min l1 l2 : Nat)) rfl (by kernel_rfl) (by kernel_rfl) (by kernel_rfl) (fun _ _ _ h => h) (Or.inl ⟨by rfl, ?_⟩) (by assumption) ?_
      · intro w' hSw; (try dsimp only at hSw); go_simp
      (try simp only [Act.put, List.getElem_toArray, List.getElem_cons_zero, List.getElem_cons_succ, List.setIfInBounds_toArray, List.set_cons_zero, List.set_cons_succ])
      refine wpAnyH_ready (rs := [10]) (by kernel_rfl) (by simp) ?_
      refine (AllReadyH.cons rfl (fun K hK => ?_) AllReadyH.nil)
      go_simp
      (try go_wp2_with fail)
      refine hK.out _ _ ?_ (fun hHeld => ?_)
      · (try dsimp only); (refine CmK.all ?_; first | exact HK.out.drew | exact held9m (by assumption) | exact CmK.by (by assumption) (held9m (by assumption)) | exact CmK.alloc (held9m (by assumption)) _ | exact CmK.put1 (held9m (by assumption)) (by omega) (by omega) (by omega) (by omega) (by omega) (by omega) _)
      clear hK K
      (try simp only [Act.put, List.getElem_toArray, List.getElem_cons_zero, List.getElem_cons_succ, List.setIfInBounds_toArray, List.set_cons_zero, List.set_cons_succ])
      refine wpAnyH_done (by kernel_rfl) ?_ _
      go_wp2_with fail
      go_meet
      exact ⟨_, rfl, by omega, hX.set 0 _, held9m (by assumption)⟩

  obtain ⟨Pl, rfl, hpl, hL, hK2⟩ := hcut
  have HJ : Hid (CmJ Ba Bb Bo w.heap.size (w.heap.size + 1) Ln A1 A2 n1 n2 c1 c2 ro1 ro2 op r1 r2 Pl (min l1 l2) w wc) := Lib.hid ⟨hK2, hL⟩
  clear hL hK2 HK hz0 q0 q1 q2 p0 p1 p2 s0 s1 C1 C2 hmin
  have lg : w.heap.size < w.heap.size + 1 := Nat.lt_succ_self _
  obtain ⟨g0, o0, s0, s1, k0, k1, k2, k3, k4, k5, F0, F1, F2, F3, F4, F5, _⟩ := HJ.out.all
  have CF := Lib.hid (CC.out false w.heap.size Pl)
  have CT := Lib.hid (CC.out true w.heap.size Pl)
  obtain ⟨l, hl⟩ : ∃ l, l = min l1 l2 := ⟨_, rfl⟩
  rw [← hl] at CF CT HJ g0
  obtain ⟨x1, hx1⟩ : ∃ x, x = Dg.ch (ndl n1 f1) r1 l false := ⟨_, rfl⟩
  obtain ⟨x2, hx2⟩ : ∃ x, x = Dg.ch (ndl n2 f2) r2 l false := ⟨_, rfl⟩
  obtain ⟨x3, hx3⟩ : ∃ x, x = Dg.ch (ndl n1 f1) r1 l true := ⟨_, rfl⟩
  obtain ⟨x4, hx4⟩ : ∃ x, x = Dg.ch (ndl n2 f2) r2 l true := ⟨_, rfl⟩
  obtain ⟨x5, hx5⟩ : ∃ x, x = gB op r1 r2 := ⟨_, rfl⟩
  rw [← hx1, ← hx2] at CF
  rw [← hx3, ← hx4] at CT
  rw [← hx5] at CB
  have HE := Lib.hid (And.intro hl (And.intro hx1 (And.intro hx2 (And.intro hx3 (And.intro hx4 hx5)))))
  clear hl hx1 hx2 hx3 hx4 hx5
  go_upto_region 3 with fail
  go_region_held3 (fun w' => w'.cell? ⟨Pl, 0, none⟩ = some (.int .i64 (l : Nat)) ∧ w'.cell? ⟨Bo, 0, none⟩ = some (.int .i64 (op : Nat)) ∧ w'.cell? ⟨w.heap.size, 0, none⟩ = some (.int .i64 (r1 : Nat)) ∧ w'.cell? ⟨w.heap.size, 1, none⟩ = some (.int .i64 (r2 : Nat)) ∧
    w'.cell? ⟨w.heap.size + 1, 0, none⟩ = some (cellW w' ⟨w.heap.size + 1, 0, none⟩) ∧ w'.cell? ⟨w.heap.size + 1, 1, none⟩ = some (cellW w' ⟨w.heap.size + 1, 1, none⟩) ∧ w'.cell? ⟨w.heap.size + 1, 2, none⟩ = some (cellW w' ⟨w.heap.size + 1, 2, none⟩) ∧ w'.cell? ⟨w.heap.size + 1, 3, none⟩ = some (cellW w' ⟨w.heap.size + 1, 3, none⟩) ∧ w'.cell? ⟨w.heap.size + 1, 4, none⟩ = some (cellW w' ⟨w.heap.size + 1, 4, none⟩) ∧ w'.cell? ⟨w.heap.size + 1, 5, none⟩ = some (cellW w' ⟨w.heap.size + 1, 5, none⟩) ∧
    w'.frozen? ⟨w.heap.size + 1, 0, none⟩ = false ∧ w'.frozen? ⟨w.heap.size + 1, 1, none⟩ = false ∧ w'.frozen? ⟨w.heap.size + 1, 2, none⟩ = false ∧ w'.frozen? ⟨w.heap.size + 1, 3, none⟩ = false ∧ w'.frozen? ⟨w.heap.size + 1, 4, none⟩ = false ∧ w'.frozen? ⟨w.heap.size + 1, 5, none⟩ = false ∧ CmJ Ba Bb Bo w.heap.size (w.heap.size + 1) Ln A1 A2 n1 n2 c1 c2 ro1 ro2 op r1 r2 Pl l w w')
    ((refine CmJ.all ?_; first | with_reducible exact HJ.out.drew | with_reducible exact held17j (by assumption) | with_reducible exact CmJ.by (by assumption) (held17j (by assumption)) | exact CmJ.put (held17j (by assumption)) (by omega) (by omega) (by omega) lg hpl (Nat.le_succ _) _ _ _ _ _ _))
    (first
      | (go_at_call 81; have hJ : CmJ Ba Bb Bo w.heap.size (w.heap.size + 1) Ln A1 A2 n1 n2 c1 c2 ro1 ro2 op r1 r2 Pl l w _ := held17j (by assumption); (with_reducible refine (CF.out _ hJ.k.bel hJ.k.bA hJ.k.bB hJ.k.bS hJ.bL).mono ?_); clear hJ; rintro e w7 ⟨rfl, hb7⟩)
      | (go_at_call 81; have hJ : CmJ Ba Bb Bo w.heap.size (w.heap.size + 1) Ln A1 A2 n1 n2 c1 c2 ro1 ro2 op r1 r2 Pl l w _ := held17j (by assumption); (with_reducible refine (CT.out _ hJ.k.bel hJ.k.bA hJ.k.bB hJ.k.bS hJ.bL).mono ?_); clear hJ; rintro e w8 ⟨rfl, hb8⟩)
      | (go_at_call 82; (with_reducible refine (CB.out _).mono ?_); rintro e w9 ⟨rfl, rfl⟩))
  have K7 := CmJ.by hb7 HJ.out.drew
  have K8 := CmJ.by hb8 K7
  obtain ⟨_, _, _, _, _, _, kR⟩ := K8.k.bR
  go_wp2_with fail
  obtain ⟨k0, k1, k2, k3, k4, k5⟩ := (kR.put6 (.int .i64 (l : Nat)) (.int .i64 (x1 : Nat)) (.int .i64 (x2 : Nat)) (.int .i64 (x3 : Nat)) (.int .i64 (x4 : Nat)) (.int .i64 (x5 : Nat))).hexa
  refine bodyPost_ret (v := .agg #[.int .i64 (l : Nat), .int .i64 (x1 : Nat), .int .i64 (x2 : Nat), .int .i64 (x3 : Nat), .int .i64 (x4 : Nat), .int .i64 (x5 : Nat)]) (by simp [results, Try.results80, go_sem, k0, k1, k2, k3, k4, k5]; done) rfl ?_
  obtain ⟨e0, e1, e2, e3, e4, e5⟩ := HE.out
  refine ⟨?_, (K8.put (by omega) (by omega) (by omega) lg hpl (Nat.le_succ _) _ _ _ _ _ _).k.bel⟩
  rw [e1, e2, e3, e4, e5, e0]

end Go.Proofs.Ytamjfcckgeakfaa
/-
  Decision diagrams, the program: combined.
-/
namespace Go.Proofs.Ytamjfcckgeakfaa
open Go.RowKit Num

theorem Try.und_Pr : Try.prog.underlying 110 = some (.array 2 3) := by kernel_rfl
theorem Try.rowPr : (110 : TypeId) < Try.prog.types.size := of_decide_eq_true (by kernel_rfl)
theorem Try.widePr : (match Try.prog.underlying 110 with | some (.array _ _) | some (.struct _) => true | _ => false) = true := by rw [Try.und_Pr]
set_option maxRecDepth 100000 in
theorem Try.lawPr : WideMaps.KeyLaw Try.prog 110 := deep_law_laid Try.laidOutDg (m := 2) (by omega) Try.rowPr (by kernel_rfl) Try.widePr
theorem Try.cellsPr : Try.prog.cellsOf 110 = 2 := by kernel_rfl
theorem Try.keyTypePr : Try.prog.keyType 110 = true := by kernel_rfl

set_option maxRecDepth 100000 in
theorem keyOf_pr (a b : Int) (ha : (Lit.int .i64 a).wf = true) (hb : (Lit.int .i64 b).wf = true) : ∃ l, keyOf Try.prog 110 (.agg #[.int .i64 a, .int .i64 b]) = some l := by
  unfold keyOf
  have hfo : (Value.agg #[.int .i64 a, .int .i64 b]).formed Try.prog 110 = true := by simp [Value.formed, Try.cellsPr]
  obtain ⟨m, hm⟩ := Try.sizeDg
  rw [Try.und_Pr]
  simp only
  rw [Try.keyTypePr, hfo, hm]
  simp only [Bool.and_self, if_true]
  have hk : Try.prog.keyLits (m + 1 + 1) 110 [.int .i64 a, .int .i64 b] = some [.int .i64 a, .int .i64 b] := by
    unfold Program.keyLits
    rw [Try.und_Pr]
    simp [Try.cellsPr, Try.cellsInt, Try.keyIntDg, ha, hb, List.range_succ]
  have hcells : (Value.agg #[.int .i64 a, .int .i64 b]).cells.toList = [.int .i64 a, .int .i64 b] := rfl
  rw [hcells, hk]
  exact ⟨_, rfl⟩

/-- A pair of references as a value. -/
abbrev prV (x : Int × Int) : Value := .agg #[.int .i64 x.1, .int .i64 x.2]
def prE {N N' : List Dg.Nd} (s : Dg.Rf N × Dg.Rf N') : Int × Int := (((s.1.1 : Nat) : Int), ((s.2.1 : Nat) : Int))
noncomputable def prK {N N' : List Dg.Nd} (s : Dg.Rf N × Dg.Rf N') : Lit := (keyOf Try.prog 110 (prV (prE s))).getD (.bool false)

theorem prOk {N N' : List Dg.Nd} (hN : N.length ≤ 1048576) (hN' : N'.length ≤ 1048576) : KeyOk 110 127 (fun s : Dg.Rf N × Dg.Rf N' => Value.agg #[.int .i64 (prE s).1, .int .i64 (prE s).2]) prK where
  keyed := Maps.Keyed.of_law Try.lawPr
  map := by kernel_rfl
  of s := by
    obtain ⟨l, hl⟩ := keyOf_pr (prE s).1 (prE s).2 (WalkArith.wf_i64 (by have := s.1.2; unfold prE; simp only; omega)) (WalkArith.wf_i64 (by have := s.2.2; unfold prE; simp only; omega))
    rw [prK, hl]; rfl
  inj s t e := by
    have f1 : ∀ s : Dg.Rf N × Dg.Rf N', keyOf Try.prog 110 (prV (prE s)) = some (prK s) := fun s => by
      obtain ⟨l, hl⟩ := keyOf_pr (prE s).1 (prE s).2 (WalkArith.wf_i64 (by have := s.1.2; unfold prE; simp only; omega)) (WalkArith.wf_i64 (by have := s.2.2; unfold prE; simp only; omega))
      rw [prK, hl]; rfl
    have e1 := f1 s
    rw [e] at e1
    have e3 := Try.lawPr.inj e1 (f1 t)
    simp only [prE, Value.agg.injEq, Array.mk.injEq, List.cons.injEq, Value.int.injEq, true_and, and_true] at e3
    exact Prod.ext (Subtype.ext (by omega)) (Subtype.ext (by omega))

/-- The diagram of a combination. -/
def cbD (op Ln : Nat) (r1 n1 : Nat) (f1 : Nat → Int) (r2 n2 : Nat) (f2 : Nat → Int) : Nat × List Dg.Nd := Dg.bld (fun j => opB op (Dg.evT (ndl n1 f1) Ln r1 j) (Dg.evT (ndl n2 f2) Ln r2 j)) Ln Ln 0 []

set_option maxRecDepth 100000 in
set_option maxHeartbeats 6400000 in
theorem combined_any (lo1 lo2 Ln op r1 r2 n1 n2 c1 c2 : Nat) (A1 A2 : Option Addr) (f1 f2 : Nat → Int) (w : World) (hs1 : ShpI (Ln : Int) n1 f1) (hs2 : ShpI (Ln : Int) n2 f2) (hL : Ln ≤ 10) (hn1 : n1 ≤ 1048576) (hn2 : n2 ≤ 1048576)
    (hr1 : r1 < n1 + 2) (hr2 : r2 < n2 + 2) (ho1 : 1 ≤ op) (ho3 : op ≤ 3) (h1 : IntsAt lo1 w A1 (n1 * 3) f1) (h2 : IntsAt lo2 w A2 (n2 * 3) f2) :
    Calls Try.prog 52 #[.int .i64 (op : Nat), dgV (Ln : Nat) A1 n1 c1 (r1 : Nat), dgV (Ln : Nat) A2 n2 c2 (r2 : Nat)] w (DgOneP Ln (cbD op Ln r1 n1 f1 r2 n2 f2) w) := by
  have hlen1 : (ndl n1 f1).length = n1 := ndl_len n1 f1
  have hlen2 : (ndl n2 f2).length = n2 := ndl_len n2 f2
  have hsh1 : Dg.Shp Ln (ndl n1 f1) := by have := hs1.shp; rwa [Int.toNat_natCast] at this
  have hsh2 : Dg.Shp Ln (ndl n2 f2) := by have := hs2.shp; rwa [Int.toNat_natCast] at this
  have e0 : ∀ (W : World) (o : Obj), (W.alloc o).heap.size = W.heap.size + 1 := fun W o => by simp
  have hO := (((Box.new w 3 #[.int .i64 (op : Nat)]).alloc (.cells #[.int .i64 (Ln : Nat), .slice A1 n1 c1, .int .i64 (r1 : Nat)] 28)).alloc (.cells #[.int .i64 (Ln : Nat), .slice A2 n2 c2, .int .i64 (r2 : Nat)] 28)).alloc (.cells #[.int .i64 0, .slice none 0 0, .int .i64 0] 28)
  have hA := ((Box.new (w.alloc (.cells #[.int .i64 (op : Nat)] 3)) 28 #[.int .i64 (Ln : Nat), .slice A1 n1 c1, .int .i64 (r1 : Nat)]).alloc (.cells #[.int .i64 (Ln : Nat), .slice A2 n2 c2, .int .i64 (r2 : Nat)] 28)).alloc (.cells #[.int .i64 0, .slice none 0 0, .int .i64 0] 28)
  have hB := (Box.new ((w.alloc (.cells #[.int .i64 (op : Nat)] 3)).alloc (.cells #[.int .i64 (Ln : Nat), .slice A1 n1 c1, .int .i64 (r1 : Nat)] 28)) 28 #[.int .i64 (Ln : Nat), .slice A2 n2 c2, .int .i64 (r2 : Nat)]).alloc (.cells #[.int .i64 0, .slice none 0 0, .int .i64 0] 28)
  have hR := Box.new (((w.alloc (.cells #[.int .i64 (op : Nat)] 3)).alloc (.cells #[.int .i64 (Ln : Nat), .slice A1 n1 c1, .int .i64 (r1 : Nat)] 28)).alloc (.cells #[.int .i64 (Ln : Nat), .slice A2 n2 c2, .int .i64 (r2 : Nat)] 28)) 28 #[.int .i64 0, .slice none 0 0, .int .i64 0]
  rw [e0] at hA
  rw [e0, e0] at hB
  rw [e0, e0, e0] at hR
  have hBl := ((((Below.refl w.heap.size w).alloc (Nat.le_refl _) (.cells #[.int .i64 (op : Nat)] 3)).alloc (by simp) (.cells #[.int .i64 (Ln : Nat), .slice A1 n1 c1, .int .i64 (r1 : Nat)] 28)).alloc (by simp; omega) (.cells #[.int .i64 (Ln : Nat), .slice A2 n2 c2, .int .i64 (r2 : Nat)] 28)).alloc (by simp; omega) (.cells #[.int .i64 0, .slice none 0 0, .int .i64 0] 28)
  have hsz : ((((w.alloc (.cells #[.int .i64 (op : Nat)] 3)).alloc (.cells #[.int .i64 (Ln : Nat), .slice A1 n1 c1, .int .i64 (r1 : Nat)] 28)).alloc (.cells #[.int .i64 (Ln : Nat), .slice A2 n2 c2, .int .i64 (r2 : Nat)] 28)).alloc (.cells #[.int .i64 0, .slice none 0 0, .int .i64 0] 28)).heap.size = w.heap.size + 1 + 1 + 1 + 1 := by simp
  obtain ⟨q0, q1, q2⟩ := hA.trio
  obtain ⟨p0, p1, p2⟩ := hB.trio
  obtain ⟨r0, t1, t2, F0, F1, F2⟩ := hR.three
  have C : Calls Try.prog 79 _ _ _ := builtP_any Ln (w.heap.size + 1 + 1 + 1 + 1) (.pointer (some ⟨w.heap.size + 1, 0, none⟩)) (.pointer (some ⟨w.heap.size + 1 + 1, 0, none⟩)) (.pointer (some ⟨w.heap.size, 0, none⟩)) prE prK (Dg.cbB hsh1 hsh2 (gB op)) _ (prOk (by omega) (by omega)) hL
    (fun s => Nat.le_trans (Nat.min_le_left _ _) (lvl_le hsh1 s.1.2))
    (fun s hl => by
      have hl' : min (Dg.lvl (ndl n1 f1) Ln s.1.1) (Dg.lvl (ndl n2 f2) Ln s.2.1) < Ln := hl
      have lt : ∀ b, min (Dg.lvl (ndl n1 f1) Ln s.1.1) (Dg.lvl (ndl n2 f2) Ln s.2.1) < min (Dg.lvl (ndl n1 f1) Ln (Dg.ch (ndl n1 f1) s.1.1 (min (Dg.lvl (ndl n1 f1) Ln s.1.1) (Dg.lvl (ndl n2 f2) Ln s.2.1)) b)) (Dg.lvl (ndl n2 f2) Ln (Dg.ch (ndl n2 f2) s.2.1 (min (Dg.lvl (ndl n1 f1) Ln s.1.1) (Dg.lvl (ndl n2 f2) Ln s.2.1)) b)) := fun b =>
        Nat.lt_min.2 ⟨Dg.ch_past hsh1 s.1.2 hl' (Nat.min_le_left _ _) b, Dg.ch_past hsh2 s.2.2 hl' (Nat.min_le_right _ _) b⟩
      exact ⟨lt false, lt true⟩)
    (fun s hl => by
      have hl' : Ln ≤ min (Dg.lvl (ndl n1 f1) Ln s.1.1) (Dg.lvl (ndl n2 f2) Ln s.2.1) := hl
      have ha := Dg.lvl_top hsh1 s.1.2 (by omega)
      have hb := Dg.lvl_top hsh2 s.2.2 (by omega)
      have := (gB_ok ho1 ho3 _ _ ha hb).1
      show gB op s.1.1 s.2.1 < 4002
      omega)
    (fun s W hW => cm_any lo1 lo2 (w.heap.size + 1) (w.heap.size + 1 + 1) w.heap.size Ln A1 A2 n1 n2 c1 c2 (r1 : Nat) (r2 : Nat) f1 f2 op s.1.1 s.2.1 W hs1 hs2 hn1 hn2 (by have := s.1.2; omega) (by have := s.2.2; omega) ho1 ho3 (hA.below hW (by omega)) (hB.below hW (by omega)) (hO.below hW (by omega))
      ((h1.below hBl (Nat.le_refl _)).below hW (by rw [hsz]; exact Nat.le_refl _)) ((h2.below hBl (Nat.le_refl _)).below hW (by rw [hsz]; exact Nat.le_refl _)))
    (⟨r1, by omega⟩, ⟨r2, by omega⟩) _ (by rw [hsz]; exact Nat.le_refl _) (Below.refl _ _)
  rw [← Dg.cb_all hsh1 hsh2 (gB op) (opB op) (gB_ok ho1 ho3) (⟨r1, by omega⟩, ⟨r2, by omega⟩)] at C
  rw [show Dg.bld (fun j => opB op (Dg.evT (ndl n1 f1) Ln r1 j) (Dg.evT (ndl n2 f2) Ln r2 j)) Ln Ln 0 [] = cbD op Ln r1 n1 f1 r2 n2 f2 from rfl] at C
  simp only [prE] at C
  generalize cbD op Ln r1 n1 f1 r2 n2 f2 = D at C ⊢
  have HB := Lib.hid hBl
  clear hO hA hB hBl hs1 hs2 hsh1 hsh2 h1 h2 hlen1 hlen2
  go_enter Try.func52, Try.ntmps52
  go_wp2_with (go_at_call 79
               refine C.mono ?_
               rintro e w5 ⟨A5, c5, rfl, hI5, hb5⟩
               have hR5 := hR.below hb5 hR.lt
               have HI5 := Lib.hid hI5
               have HB5 := Lib.hid (HB.out.trans (hb5.mono HB.out.size))
               clear q0 q1 q2 p0 p1 p2 r0 t1 t2 F0 F1 F2 hR hb5 hI5 C
               obtain ⟨r0, t1, t2, F0, F1, F2⟩ := hR5.three)
  have hgt : w.heap.size + 1 + 1 + 1 < w5.heap.size := hR5.lt
  obtain ⟨k0, k1, k2⟩ := (hR5.dgPut (.int .i64 (Ln : Nat)) (.slice A5 D.2.length c5) (.int .i64 (D.1 : Nat))).trio
  refine bodyPost_ret (v := dgV (Ln : Nat) A5 D.2.length c5 (D.1 : Nat)) (by simp [results, Try.results52, go_sem, k0, k1, k2]; done) rfl ?_
  have hk := fun (u : Nat) (W : World) (v : Value) => keeps_set (lo := w.heap.size + 1 + 1 + 1 + 1) (W := W) (p := ⟨w.heap.size + 1 + 1 + 1, u, none⟩) (Nat.lt_succ_self _) v
  refine ⟨A5, c5, rfl, ?_, ?_⟩
  · rw [hsz] at HI5
    exact (((HI5.out.keep (hk 0 _ _)).keep (hk 1 _ _)).keep (hk 2 _ _)).low (by omega)
  · exact ((HB5.out.setCell (p := ⟨w.heap.size + 1 + 1 + 1, 0, none⟩) (by show w.heap.size ≤ w.heap.size + 1 + 1 + 1; omega) _).setCell (p := ⟨w.heap.size + 1 + 1 + 1, 1, none⟩) (by show w.heap.size ≤ w.heap.size + 1 + 1 + 1; omega) _).setCell (p := ⟨w.heap.size + 1 + 1 + 1, 2, none⟩) (by show w.heap.size ≤ w.heap.size + 1 + 1 + 1; omega) _

end Go.Proofs.Ytamjfcckgeakfaa
