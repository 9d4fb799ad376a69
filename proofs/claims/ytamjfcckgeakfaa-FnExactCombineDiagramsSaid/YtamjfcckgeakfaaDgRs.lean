/-
  Decision diagrams, the program: a restriction's closure, and the restriction.
-/
import Derived.Test.YtamjfcckgeakfaaDgBuI
import Derived.Test.YtamjfcckgeakfaaDgTc
namespace Go.Proofs.Ytamjfcckgeakfaa
open Go.RowKit Num

theorem lvI_lvl {Ln n : Nat} {f : Nat → Int} (hs : ShpI (Ln : Int) n f) {r : Nat} (hr : r < n + 2) : lvI (Ln : Int) f (r : Int) = (Dg.lvl (ndl n f) Ln r : Nat) := by
  unfold lvI Dg.lvl
  by_cases h : r < 2
  · rw [if_pos (by omega), if_pos h]
  · have hk : r - 2 < n := by omega
    rw [if_neg (by omega), if_neg h]
    have := nd_ndl f hk
    rw [show r - 2 + 2 = r by omega] at this
    rw [this]
    have h0 := (hs _ hk).1.1
    show f (((r : Int).toNat - 2) * 3) = (((f ((r - 2) * 3)).toNat : Nat) : Int)
    rw [Int.toNat_natCast]
    omega

/-- What the last region of the closure keeps. -/
structure RsK (Bd G Ln : Nat) (A0 : Option Addr) (n c : Nat) (ro : Int) (w W : World) : Prop where
  bP : Box W Bd 28 #[.int .i64 (Ln : Nat), .slice A0 n c, .int .i64 ro]
  bR : ∃ a b d e, Box W G 104 #[a, b, d, e]
  bel : Below w.heap.size w W

theorem Box.put4 {W : World} {G : Nat} {t : TypeId} {a b d e : Value} (h : Box W G t #[a, b, d, e]) (x y z u : Value) : Box ((((W.setCell ⟨G, 0, none⟩ x).setCell ⟨G, 1, none⟩ y).setCell ⟨G, 2, none⟩ z).setCell ⟨G, 3, none⟩ u) G t #[x, y, z, u] := by
  have := (((h.set 0 x).set 1 y).set 2 z).set 3 u
  simpa using this

section
variable {Bd G Ln : Nat} {A0 : Option Addr} {n c : Nat} {ro : Int} {w W W' : World}
theorem RsK.by (hb : Below W.heap.size W W') (h : RsK Bd G Ln A0 n c ro w W) : RsK Bd G Ln A0 n c ro w W' :=
  ⟨h.bP.below hb h.bP.lt, (let ⟨a, b, d, e, k⟩ := h.bR; ⟨a, b, d, e, k.below hb k.lt⟩), h.bel.trans (hb.mono h.bel.size)⟩
theorem RsK.drew (h : RsK Bd G Ln A0 n c ro w W) : RsK Bd G Ln A0 n c ro w W.drew := ⟨h.bP, h.bR, h.bel.drew⟩
theorem RsK.put (h : RsK Bd G Ln A0 n c ro w W) (hG : Bd < G) (hw : w.heap.size ≤ G) (x y z u : Value) : RsK Bd G Ln A0 n c ro w ((((W.setCell ⟨G, 0, none⟩ x).setCell ⟨G, 1, none⟩ y).setCell ⟨G, 2, none⟩ z).setCell ⟨G, 3, none⟩ u) :=
  ⟨(((h.bP.far3 (show G ≠ Bd by omega) 0 x).far3 (show G ≠ Bd by omega) 1 y).far3 (show G ≠ Bd by omega) 2 z).far3 (show G ≠ Bd by omega) 3 u,
    (let ⟨_, _, _, _, k⟩ := h.bR; ⟨x, y, z, u, k.put4 x y z u⟩),
    (((h.bel.setCell (p := ⟨G, 0, none⟩) hw x).setCell (p := ⟨G, 1, none⟩) hw y).setCell (p := ⟨G, 2, none⟩) hw z).setCell (p := ⟨G, 3, none⟩) hw u⟩
theorem RsK.all (h : RsK Bd G Ln A0 n c ro w W) : W.cell? ⟨Bd, 0, none⟩ = some (.int .i64 (Ln : Nat)) ∧ W.cell? ⟨Bd, 1, none⟩ = some (.slice A0 n c) ∧ W.cell? ⟨Bd, 2, none⟩ = some (.int .i64 ro) ∧
    W.cell? ⟨G, 0, none⟩ = some (cellW W ⟨G, 0, none⟩) ∧ W.cell? ⟨G, 1, none⟩ = some (cellW W ⟨G, 1, none⟩) ∧ W.cell? ⟨G, 2, none⟩ = some (cellW W ⟨G, 2, none⟩) ∧ W.cell? ⟨G, 3, none⟩ = some (cellW W ⟨G, 3, none⟩) ∧
    W.frozen? ⟨G, 0, none⟩ = false ∧ W.frozen? ⟨G, 1, none⟩ = false ∧ W.frozen? ⟨G, 2, none⟩ = false ∧ W.frozen? ⟨G, 3, none⟩ = false ∧ RsK Bd G Ln A0 n c ro w W := by
  obtain ⟨a, b, d, e, k⟩ := h.bR
  obtain ⟨k0, k1, k2, k3⟩ := k.quad
  obtain ⟨q0, q1, q2⟩ := h.bP.trio
  exact ⟨q0, q1, q2, by unfold cellW; rw [k0]; rfl, by unfold cellW; rw [k1]; rfl, by unfold cellW; rw [k2]; rfl, by unfold cellW; rw [k3]; rfl, k.free 0, k.free 1, k.free 2, k.free 3, h⟩
end

theorem held12r {p0 p1 p2 p3 p4 p5 p6 p7 p8 p9 pa K : Prop} (h : p0 ∧ p1 ∧ p2 ∧ p3 ∧ p4 ∧ p5 ∧ p6 ∧ p7 ∧ p8 ∧ p9 ∧ pa ∧ K) : K := h.2.2.2.2.2.2.2.2.2.2.2

set_option maxRecDepth 100000 in
set_option maxHeartbeats 6400000 in
theorem rs1_any (lo Ln Bd Bv Bb v : Nat) (val : Bool) (ro : Int) (n c : Nat) (A0 : Option Addr) (f : Nat → Int) (hs : ShpI (Ln : Int) n f) (_ : Ln ≤ 10) (hn : n ≤ 1048576) (hsh : Dg.Shp Ln (ndl n f)) (s : Dg.Rf (ndl n f)) (w : World)
    (hd : Box w Bd 28 #[.int .i64 (Ln : Nat), .slice A0 n c, .int .i64 ro]) (hv : Box w Bv 3 #[.int .i64 (v : Nat)]) (hb : Box w Bb 4 #[.bool val]) (h0 : IntsAt lo w A0 (n * 3) f) :
    Calls Try.prog 74 #[.int .i64 (s.1 : Nat), .pointer (some ⟨Bd, 0, none⟩), .pointer (some ⟨Bv, 0, none⟩), .pointer (some ⟨Bb, 0, none⟩)] w fun e w' =>
      e = .returned (.agg #[.int .i64 ((Dg.rsB hsh v val).lev s : Nat), .int .i64 (((Dg.rsB hsh v val).lo s).1 : Nat), .int .i64 (((Dg.rsB hsh v val).hi s).1 : Nat), .int .i64 ((Dg.rsB hsh v val).val s : Nat)]) ∧ Below w.heap.size w w' := by
  have H0 := Lib.hid h0; clear h0
  have hlen : (ndl n f).length = n := ndl_len n f
  have hr0 : s.1 < n + 2 := by have := s.2; omega
  show Calls _ _ _ _ fun e w' => e = .returned (.agg #[.int .i64 (Dg.lvl (ndl n f) Ln (Dg.ch (ndl n f) s.1 v val) : Nat), .int .i64 (Dg.ch (ndl n f) (Dg.ch (ndl n f) s.1 v val) (Dg.lvl (ndl n f) Ln (Dg.ch (ndl n f) s.1 v val)) false : Nat), .int .i64 (Dg.ch (ndl n f) (Dg.ch (ndl n f) s.1 v val) (Dg.lvl (ndl n f) Ln (Dg.ch (ndl n f) s.1 v val)) true : Nat), .int .i64 (Dg.ch (ndl n f) s.1 v val : Nat)]) ∧ _
  have hr1 : Dg.ch (ndl n f) s.1 v val < n + 2 := by have := Dg.ch_lt (l := v) (b := val) hsh s.2; omega
  have C1 : Hid (∀ W, Below w.heap.size w W → _) := Lib.hid fun W hW => childAt_all lo (Ln : Int) ro s.1 v val n c A0 f W hs hn hr0 (H0.out.below hW (Nat.le_refl _))
  generalize s.1 = r0 at C1 hr1 hr0 ⊢
  generalize Dg.ch (ndl n f) r0 v val = r1 at C1 hr1 ⊢
  have C2 : Hid (∀ W, Below w.heap.size w W → _) := Lib.hid fun W hW => levelAt_any lo (Ln : Int) ro (r1 : Int) n c A0 f W hn (by omega) (by omega) (H0.out.below hW (Nat.le_refl _))
  rw [lvI_lvl hs hr1] at C2
  generalize Dg.lvl (ndl n f) Ln r1 = l at C2 ⊢
  have C3 : Hid (∀ W, Below w.heap.size w W → _) := Lib.hid fun W hW => childAt_all lo (Ln : Int) ro r1 l false n c A0 f W hs hn hr1 (H0.out.below hW (Nat.le_refl _))
  have C4 : Hid (∀ W, Below w.heap.size w W → _) := Lib.hid fun W hW => childAt_all lo (Ln : Int) ro r1 l true n c A0 f W hs hn hr1 (H0.out.below hW (Nat.le_refl _))
  generalize Dg.ch (ndl n f) r1 l false = x at C3 ⊢
  generalize Dg.ch (ndl n f) r1 l true = y at C4 ⊢
  have hP := hd.alloc (.cells #[.int .i64 0, .int .i64 0, .int .i64 0, .int .i64 0] 104)
  have hV := hv.alloc (.cells #[.int .i64 0, .int .i64 0, .int .i64 0, .int .i64 0] 104)
  have hQ := hb.alloc (.cells #[.int .i64 0, .int .i64 0, .int .i64 0, .int .i64 0] 104)
  have hR := Box.new w 104 #[.int .i64 0, .int .i64 0, .int .i64 0, .int .i64 0]
  have hB := (Below.refl w.heap.size w).alloc (Nat.le_refl _) (.cells #[.int .i64 0, .int .i64 0, .int .i64 0, .int .i64 0] 104)
  have hlt := hd.lt
  obtain ⟨q0, q1, q2⟩ := hP.trio
  have v0 := hV.cell 0
  have b0 := hQ.cell 0
  clear hr0 hr1 hd hv hb hs hsh hlen
  go_enter Try.func74, Try.ntmps74
  go_upto_region 3 with (first
    | (go_at_call 75
       refine (C1.out _ hB).mono ?_
       rintro e w1 ⟨rfl, hb1⟩
       replace hP := hP.below hb1 hP.lt
       replace hR := hR.below hb1 hR.lt
       replace hB := hB.trans (hb1.mono hB.size)
       clear hb1 q0 q1 q2 v0 b0 hV hQ C1
       obtain ⟨q0, q1, q2⟩ := hP.trio)
    | (go_at_call 76
       refine (C2.out _ hB).mono ?_
       rintro e w2 ⟨rfl, hb2⟩
       have HK : Hid (RsK Bd w.heap.size Ln A0 n c ro w w2) := Lib.hid ⟨hP.below hb2 hP.lt, ⟨_, _, _, _, hR.below hb2 hR.lt⟩, hB.trans (hb2.mono hB.size)⟩
       clear hb2 q0 q1 q2 hP hR hB C2))
  obtain ⟨q0, q1, q2, g0, g1, g2, g3, F0, F1, F2, F3, _⟩ := HK.out.all
  go_region_held3 (fun w' => w'.cell? ⟨Bd, 0, none⟩ = some (.int .i64 (Ln : Nat)) ∧ w'.cell? ⟨Bd, 1, none⟩ = some (.slice A0 n c) ∧ w'.cell? ⟨Bd, 2, none⟩ = some (.int .i64 ro) ∧
      w'.cell? ⟨w.heap.size, 0, none⟩ = some (cellW w' ⟨w.heap.size, 0, none⟩) ∧ w'.cell? ⟨w.heap.size, 1, none⟩ = some (cellW w' ⟨w.heap.size, 1, none⟩) ∧ w'.cell? ⟨w.heap.size, 2, none⟩ = some (cellW w' ⟨w.heap.size, 2, none⟩) ∧ w'.cell? ⟨w.heap.size, 3, none⟩ = some (cellW w' ⟨w.heap.size, 3, none⟩) ∧
      w'.frozen? ⟨w.heap.size, 0, none⟩ = false ∧ w'.frozen? ⟨w.heap.size, 1, none⟩ = false ∧ w'.frozen? ⟨w.heap.size, 2, none⟩ = false ∧ w'.frozen? ⟨w.heap.size, 3, none⟩ = false ∧ RsK Bd w.heap.size Ln A0 n c ro w w')
    ((refine RsK.all ?_; first | exact HK.out.drew | exact held12r (by assumption) | exact RsK.by (by assumption) (held12r (by assumption)) | exact RsK.put (held12r (by assumption)) hlt (Nat.le_refl _) _ _ _ _))
    (first
      | (go_at_call 75; with_reducible refine (C3.out _ (RsK.bel (held12r (by assumption)))).mono ?_; rintro e w3 ⟨rfl, hb3⟩)
      | (go_at_call 75; with_reducible refine (C4.out _ (RsK.bel (held12r (by assumption)))).mono ?_; rintro e w4 ⟨rfl, hb4⟩))
  have K3 := RsK.by hb3 HK.out.drew
  have K4 := RsK.by hb4 K3
  obtain ⟨_, _, _, _, kR⟩ := K4.bR
  go_wp2_with fail
  obtain ⟨k0, k1, k2, k3⟩ := (kR.put4 (.int .i64 (l : Nat)) (.int .i64 (x : Nat)) (.int .i64 (y : Nat)) (.int .i64 (r1 : Nat))).quad
  refine bodyPost_ret (v := .agg #[.int .i64 (l : Nat), .int .i64 (x : Nat), .int .i64 (y : Nat), .int .i64 (r1 : Nat)]) (by simp [results, Try.results74, go_sem, k0, k1, k2, k3]; done) rfl ?_
  exact ⟨rfl, (K4.put hlt (Nat.le_refl _) _ _ _ _).bel⟩

end Go.Proofs.Ytamjfcckgeakfaa
