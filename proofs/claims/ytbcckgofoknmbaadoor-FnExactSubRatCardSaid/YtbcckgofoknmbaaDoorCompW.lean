/-
  Several texts in one: CompF, CompR, CompI.
-/
import Derived.Test.YtbcckgofoknmbaaDoorGcdN
import Derived.Test.YtbcckgofoknmbaaDoorFracOfB
import Derived.Test.YtbcckgofoknmbaaDoorPWord
import Derived.Test.YtbcckgofoknmbaaDoorFracLaw
import Derived.BigRegion
/-
  The program's comparison of two fractions.
-/
namespace Go.Proofs.YtbcckgofoknmbaaDoor
open Go.RowKit Num

/-- The order of two fractions, as the document's chapter 1 has it. -/
def cmpR (b1 : Bool) (n1 d1 : Nat) (b2 : Bool) (n2 d2 : Nat) : Int :=
  if b1 = b2 then (if b1 = true then -(cmpI (n1 * d2) (n2 * d1)) else cmpI (n1 * d2) (n2 * d1)) else (if b1 = true then -1 else 1)

theorem cmpI_bd (x y : Nat) : -1 ≤ cmpI x y ∧ cmpI x y ≤ 1 := by unfold cmpI; split <;> (try split) <;> omega

theorem Box.other {w : World} {G H : Nat} {t : TypeId} {cs : Array Value} (h : Box w G t cs) (hne : H ≠ G) (i : Nat) (v : Value) : Box (w.setCell ⟨H, i, none⟩ v) G t cs := by
  unfold Box at h ⊢
  simp [World.setCell, Array.getElem?_modify, hne, h]

theorem hold6 {W w' : World} {G H : Nat} {t u : TypeId} {a b c d e f : Value} (h : Box W G t #[a, b, c]) (k : Box W H u #[d, e, f]) (hb : Below W.heap.size W w') : w'.cell? ⟨G, 0, none⟩ = some a ∧ w'.cell? ⟨G, 1, none⟩ = some b ∧ w'.cell? ⟨G, 2, none⟩ = some c ∧ w'.cell? ⟨H, 0, none⟩ = some d ∧ w'.cell? ⟨H, 1, none⟩ = some e ∧ w'.cell? ⟨H, 2, none⟩ = some f ∧ Below W.heap.size W w' := by
  obtain ⟨h1, h2, h3, _⟩ := (h.below hb h.lt).three
  obtain ⟨k1, k2, k3, _⟩ := (k.below hb k.lt).three
  exact ⟨h1, h2, h3, k1, k2, k3, hb⟩
theorem hold6_below {W w' : World} {a b c d e f : Prop} (h : a ∧ b ∧ c ∧ d ∧ e ∧ f ∧ Below W.heap.size W w') : Below W.heap.size W w' := h.2.2.2.2.2.2
theorem drawn_below {e r : Ending} {w w' : World} (h : e = r ∧ ∃ nq, w' = w.drewN nq) : e = r ∧ Below w.heap.size w w' := by
  obtain ⟨h, nq, rfl⟩ := h
  exact ⟨h, below_drewN nq (Below.refl _ w)⟩

end Go.Proofs.YtbcckgofoknmbaaDoor
/-
  The program's comparison of two Rats.
-/
namespace Go.Proofs.YtbcckgofoknmbaaDoor
open Go.RowKit Num

/-- A Rat read as a fraction: what comes back, with a word on whether it could be read. -/
theorem fracOf_one (b : Bool) (x y : ByteArray) (w : World) (hx : x.size ≤ 9223372036854775807) (hy : y.size ≤ 9223372036854775807) (hU : UnitB w) (hT : Tab64 w) (r : Bool) (hr : r = validR b x y) :
    Calls Tryd.prog 26 #[.agg #[.bool b, .string x, .string y]] w fun e w' => (∃ c A l k A' l' k', e = .returned (.tuple #[.agg #[.bool c, .slice A l k, .slice A' l' k'], .bool r]) ∧ (r = true → c = b ∧ Nums 64 .u64 WB w' (.slice A l k) (numOf x) ∧ Nums 64 .u64 WB w' (.slice A' l' k') (numOf y))) ∧ Below w.heap.size w w' := by
  refine (fracOf_all b x y w hx hy hU hT).mono fun e w' h => ⟨?_, h.2⟩
  have h1 := h.1
  rw [← hr] at h1
  cases r with
  | true =>
    rw [if_pos rfl] at h1
    obtain ⟨vn, vd, rfl, hn, hd⟩ := h1
    obtain ⟨An, cn, rfl, _, _, _⟩ := RowF.open hn
    obtain ⟨Ad, cd, rfl, _, _, _⟩ := RowF.open hd
    exact ⟨b, _, _, _, _, _, _, rfl, fun _ => ⟨rfl, hn, hd⟩⟩
  | false =>
    rw [if_neg (by decide)] at h1
    exact ⟨false, none, 0, 0, none, 0, 0, h1, fun h => by cases h⟩

def PairPost (w : World) (b1 : Bool) (x1 y1 : ByteArray) (b2 : Bool) (x2 y2 : ByteArray) (r : Bool) (e : Ending) (w' : World) : Prop :=
  (∃ c1 A1 l1 k1 A2 l2 k2 c2 A3 l3 k3 A4 l4 k4, e = .returned (.tuple #[.agg #[.bool c1, .slice A1 l1 k1, .slice A2 l2 k2], .agg #[.bool c2, .slice A3 l3 k3, .slice A4 l4 k4], .bool r]) ∧
    (r = true → (c1 = b1 ∧ Nums 64 .u64 WB w' (.slice A1 l1 k1) (numOf x1) ∧ Nums 64 .u64 WB w' (.slice A2 l2 k2) (numOf y1)) ∧ (c2 = b2 ∧ Nums 64 .u64 WB w' (.slice A3 l3 k3) (numOf x2) ∧ Nums 64 .u64 WB w' (.slice A4 l4 k4) (numOf y2)))) ∧ Below w.heap.size w w'

set_option maxRecDepth 100000 in
set_option maxHeartbeats 1600000 in
theorem pair_yes (b1 : Bool) (x1 y1 : ByteArray) (b2 : Bool) (x2 y2 : ByteArray) (w : World) (hx1 : x1.size ≤ 9223372036854775807) (hy1 : y1.size ≤ 9223372036854775807) (hx2 : x2.size ≤ 9223372036854775807) (hy2 : y2.size ≤ 9223372036854775807) (hU : UnitB w) (hT : Tab64 w) (r2 : Bool) (hr1 : true = validR b1 x1 y1) (hr2 : r2 = validR b2 x2 y2) :
    Calls Tryd.prog 14 #[.agg #[.bool b1, .string x1, .string y1], .agg #[.bool b2, .string x2, .string y2]] w fun e w' => PairPost w b1 x1 y1 b2 x2 y2 r2 e w' := by
  have C1 : Hid (∀ W, Below w.heap.size w W → _) := Lib.hid fun W hW => fracOf_one b1 x1 y1 W hx1 hy1 (hU.below hW) (hT.below hW) true hr1
  have C2 : Hid (∀ W, Below w.heap.size w W → _) := Lib.hid fun W hW => fracOf_one b2 x2 y2 W hx2 hy2 (hU.below hW) (hT.below hW) r2 hr2
  clear hr1 hr2 hU hT hx1 hy1 hx2 hy2
  have hB := ((((Below.refl w.heap.size w).alloc (Nat.le_refl _) (.cells #[.bool b1, .string x1, .string y1] 25)).alloc (by simp) (.cells #[.bool b2, .string x2, .string y2] 25)).alloc (by simp; omega) (.cells #[.bool false, .slice none 0 0, .slice none 0 0] 43)).alloc (by simp; omega) (.cells #[.bool false, .slice none 0 0, .slice none 0 0] 43)
  have h2 := (((Box.new w 25 #[.bool b1, .string x1, .string y1]).alloc (.cells #[.bool b2, .string x2, .string y2] 25)).alloc (.cells #[.bool false, .slice none 0 0, .slice none 0 0] 43)).alloc (.cells #[.bool false, .slice none 0 0, .slice none 0 0] 43)
  have h3 := ((Box.new (w.alloc (.cells #[.bool b1, .string x1, .string y1] 25)) 25 #[.bool b2, .string x2, .string y2]).alloc (.cells #[.bool false, .slice none 0 0, .slice none 0 0] 43)).alloc (.cells #[.bool false, .slice none 0 0, .slice none 0 0] 43)
  have h4 := (Box.new ((w.alloc (.cells #[.bool b1, .string x1, .string y1] 25)).alloc (.cells #[.bool b2, .string x2, .string y2] 25)) 43 #[.bool false, .slice none 0 0, .slice none 0 0]).alloc (.cells #[.bool false, .slice none 0 0, .slice none 0 0] 43)
  have h5 := Box.new (((w.alloc (.cells #[.bool b1, .string x1, .string y1] 25)).alloc (.cells #[.bool b2, .string x2, .string y2] 25)).alloc (.cells #[.bool false, .slice none 0 0, .slice none 0 0] 43)) 43 #[.bool false, .slice none 0 0, .slice none 0 0]
  have e0 : ∀ (W : World) (o : Obj), (W.alloc o).heap.size = W.heap.size + 1 := fun W o => by simp
  rw [e0] at h3
  rw [e0, e0] at h4
  rw [e0, e0, e0] at h5
  clear e0
  go_enter Tryd.func14, Tryd.ntmps14
  go_upto_region 1 with fail
  obtain ⟨W, hW⟩ : ∃ W, W = (((w.alloc (.cells #[.bool b1, .string x1, .string y1] 25)).alloc (.cells #[.bool b2, .string x2, .string y2] 25)).alloc (.cells #[.bool false, .slice none 0 0, .slice none 0 0] 43)).alloc (.cells #[.bool false, .slice none 0 0, .slice none 0 0] 43) := ⟨_, rfl⟩
  rw [← hW] at hB h2 h3 h4 h5 ⊢
  clear hW
  obtain ⟨r0, r1, r2, _, _, _⟩ := h2.three
  obtain ⟨s0, s1, s2, _, _, _⟩ := h3.three
  have HB := Lib.hid hB; clear hB
  have H3 := Lib.hid h3; clear h3
  have H4 := Lib.hid h4; clear h4
  have H5 := Lib.hid h5; clear h5 h2
  go_upto_region 3 with (first
    | (go_at_call_of 26 (Value.agg #[.bool b1, .string x1, .string y1]); refine (C1.out _ HB.out).mono ?_; rintro e w1 ⟨⟨c1, A1, l1, k1, A2, l2, k2, rfl, hn1⟩, hb1⟩; have HN1 := Lib.hid hn1; have hz1 : w.heap.size + 4 ≤ w1.heap.size := (by have := H5.out.lt; have := hb1.size; omega); have HB1 := Lib.hid ((HB.out.trans (hb1.mono HB.out.size)).alloc (HB.out.trans (hb1.mono HB.out.size)).size (.cells #[.bool c1, .slice A1 l1 k1, .slice A2 l2 k2] 43)); have h31 := (H3.out.below hb1 H3.out.lt).alloc (.cells #[.bool c1, .slice A1 l1 k1, .slice A2 l2 k2] 43); have H41 := Lib.hid ((H4.out.below hb1 H4.out.lt).alloc (.cells #[.bool c1, .slice A1 l1 k1, .slice A2 l2 k2] 43)); have H51 := Lib.hid ((H5.out.below hb1 H5.out.lt).alloc (.cells #[.bool c1, .slice A1 l1 k1, .slice A2 l2 k2] 43)); have H71 := Lib.hid (Box.new w1 43 #[.bool c1, .slice A1 l1 k1, .slice A2 l2 k2]); clear r0 r1 r2 s0 s1 s2 hb1 hn1; obtain ⟨s0, s1, s2, _, _, _⟩ := h31.three; clear h31)
    | (go_at_call_of 26 (Value.agg #[.bool b2, .string x2, .string y2]); refine (C2.out _ HB1.out).mono ?_; rintro e w2 ⟨⟨c2, A3, l3, k3, A4, l4, k4, rfl, hn2⟩, hb2⟩; have HN2 := Lib.hid hn2; have Hb2 := Lib.hid hb2; clear s0 s1 s2 hb2 hn2))
  obtain ⟨W3, hW3⟩ : ∃ W3, W3 = w2.alloc (.cells #[.bool c2, .slice A3 l3 k3, .slice A4 l4 k4] 43) := ⟨_, rfl⟩
  have hb2 := Hb2.out
  have hbx := (Below.refl w2.heap.size w2).alloc (Nat.le_refl _) (.cells #[.bool c2, .slice A3 l3 k3, .slice A4 l4 k4] 43)
  have h4 := (H41.out.below hb2 H41.out.lt).alloc (.cells #[.bool c2, .slice A3 l3 k3, .slice A4 l4 k4] 43)
  have h5 := (H51.out.below hb2 H51.out.lt).alloc (.cells #[.bool c2, .slice A3 l3 k3, .slice A4 l4 k4] 43)
  have h7 := (H71.out.below hb2 H71.out.lt).alloc (.cells #[.bool c2, .slice A3 l3 k3, .slice A4 l4 k4] 43)
  have h9 := Box.new w2 43 #[.bool c2, .slice A3 l3 k3, .slice A4 l4 k4]
  have hz2 : w1.heap.size + 1 ≤ w2.heap.size := by have := hb2.size; simp at this; omega
  have hB3 := HB1.out.trans (hb2.mono HB1.out.size)
  have hB4 := hB3.alloc hB3.size (.cells #[.bool c2, .slice A3 l3 k3, .slice A4 l4 k4] 43)
  have hN1 := HN1.out
  have hN2 := HN2.out
  have H3' := Lib.hid hB4
  obtain ⟨G7, hG7⟩ : ∃ G, G = w1.heap.size := ⟨_, rfl⟩
  obtain ⟨G9, hG9⟩ : ∃ G, G = w2.heap.size := ⟨_, rfl⟩
  rw [← hG7] at h7 hz1 hz2 ⊢
  rw [← hG9] at h9 hz2 ⊢
  rw [← hW3] at h4 h5 h7 h9 ⊢
  have hNK : Hid (r2 = true → (c1 = b1 ∧ Nums 64 .u64 WB W3 (.slice A1 l1 k1) (numOf x1) ∧ Nums 64 .u64 WB W3 (.slice A2 l2 k2) (numOf y1)) ∧ (c2 = b2 ∧ Nums 64 .u64 WB W3 (.slice A3 l3 k3) (numOf x2) ∧ Nums 64 .u64 WB W3 (.slice A4 l4 k4) (numOf y2))) := Lib.hid (by
    intro h
    obtain ⟨e2, n3, n4⟩ := hN2 h
    obtain ⟨e1, n1, n2⟩ := hN1 trivial
    have q1 := (Below.refl w1.heap.size w1).alloc (Nat.le_refl _) (.cells #[.bool c1, .slice A1 l1 k1, .slice A2 l2 k2] 43)
    have q2 : Below w1.heap.size w1 W3 := (q1.trans (hb2.mono q1.size)).trans (by rw [hW3]; exact hbx.mono (by omega))
    rw [hW3] at q2 ⊢
    exact ⟨⟨e1, n1.below q2 (Nat.le_refl _), n2.below q2 (Nat.le_refl _)⟩, ⟨e2, n3.below hbx (Nat.le_refl _), n4.below hbx (Nat.le_refl _)⟩⟩)
  have hBB : Hid (Below w.heap.size w W3) := Lib.hid (by rw [hW3]; exact hB4)
  clear hN1 hN2 H3' hB3 hB4 hb2 hbx HN1 HN2 Hb2 H41 H51 H71 H3 H4 H5 HB HB1 C1 C2 hW3 hG7 hG9
  obtain ⟨p0, p1, p2, _, _, _⟩ := h7.three
  obtain ⟨q0, q1, q2, _, _, _⟩ := h9.three
  obtain ⟨s0, s1, s2, f0, f1, f2⟩ := h4.three
  obtain ⟨t0, t1, t2, g0, g1, g2⟩ := h5.three
  have a1 : w.heap.size + 1 + 1 ≠ G7 := by omega
  have a2 : w.heap.size + 1 + 1 ≠ G9 := by omega
  have a3 : w.heap.size + 1 + 1 + 1 ≠ G7 := by omega
  have a4 : w.heap.size + 1 + 1 + 1 ≠ G9 := by omega
  have a5 : w.heap.size + 1 + 1 ≠ w.heap.size + 1 + 1 + 1 := by omega
  clear hz1 hz2
  have Q4 := Lib.hid h4
  have Q5 := Lib.hid h5
  clear h4 h5 h7 h9
  go_region
  have bx4 : Box ((((((W3.setCell ⟨w.heap.size + 1 + 1, 0, none⟩ (.bool c1)).setCell ⟨w.heap.size + 1 + 1, 1, none⟩ (.slice A1 l1 k1)).setCell ⟨w.heap.size + 1 + 1, 2, none⟩ (.slice A2 l2 k2)).setCell ⟨w.heap.size + 1 + 1 + 1, 0, none⟩ (.bool c2)).setCell ⟨w.heap.size + 1 + 1 + 1, 1, none⟩ (.slice A3 l3 k3)).setCell ⟨w.heap.size + 1 + 1 + 1, 2, none⟩ (.slice A4 l4 k4)) (w.heap.size + 1 + 1) 43 #[.bool c1, .slice A1 l1 k1, .slice A2 l2 k2] :=
    (((((Q4.out.set 0 _).set 1 _).set 2 _).other a5.symm 0 _).other a5.symm 1 _).other a5.symm 2 _
  have bx5 : Box ((((((W3.setCell ⟨w.heap.size + 1 + 1, 0, none⟩ (.bool c1)).setCell ⟨w.heap.size + 1 + 1, 1, none⟩ (.slice A1 l1 k1)).setCell ⟨w.heap.size + 1 + 1, 2, none⟩ (.slice A2 l2 k2)).setCell ⟨w.heap.size + 1 + 1 + 1, 0, none⟩ (.bool c2)).setCell ⟨w.heap.size + 1 + 1 + 1, 1, none⟩ (.slice A3 l3 k3)).setCell ⟨w.heap.size + 1 + 1 + 1, 2, none⟩ (.slice A4 l4 k4)) (w.heap.size + 1 + 1 + 1) 43 #[.bool c2, .slice A3 l3 k3, .slice A4 l4 k4] :=
    (((((Q5.out.other a5 0 _).other a5 1 _).other a5 2 _).set 0 _).set 1 _).set 2 _
  have kn : ∀ (v : Value) (n : Nat), Nums 64 .u64 WB W3 v n → Nums 64 .u64 WB ((((((W3.setCell ⟨w.heap.size + 1 + 1, 0, none⟩ (.bool c1)).setCell ⟨w.heap.size + 1 + 1, 1, none⟩ (.slice A1 l1 k1)).setCell ⟨w.heap.size + 1 + 1, 2, none⟩ (.slice A2 l2 k2)).setCell ⟨w.heap.size + 1 + 1 + 1, 0, none⟩ (.bool c2)).setCell ⟨w.heap.size + 1 + 1 + 1, 1, none⟩ (.slice A3 l3 k3)).setCell ⟨w.heap.size + 1 + 1 + 1, 2, none⟩ (.slice A4 l4 k4)) v n := fun v n h =>
    frac_kept (frac_kept h Q4.out _ _ _) (((Q5.out.other a5 0 _).other a5 1 _).other a5 2 _) _ _ _
  have kb : Below w.heap.size w ((((((W3.setCell ⟨w.heap.size + 1 + 1, 0, none⟩ (.bool c1)).setCell ⟨w.heap.size + 1 + 1, 1, none⟩ (.slice A1 l1 k1)).setCell ⟨w.heap.size + 1 + 1, 2, none⟩ (.slice A2 l2 k2)).setCell ⟨w.heap.size + 1 + 1 + 1, 0, none⟩ (.bool c2)).setCell ⟨w.heap.size + 1 + 1 + 1, 1, none⟩ (.slice A3 l3 k3)).setCell ⟨w.heap.size + 1 + 1 + 1, 2, none⟩ (.slice A4 l4 k4)) :=
    below_put3 (below_put3 hBB.out (by omega) _ _ _) (by omega) _ _ _
  obtain ⟨V, hV⟩ : ∃ V, V = ((((((W3.setCell ⟨w.heap.size + 1 + 1, 0, none⟩ (.bool c1)).setCell ⟨w.heap.size + 1 + 1, 1, none⟩ (.slice A1 l1 k1)).setCell ⟨w.heap.size + 1 + 1, 2, none⟩ (.slice A2 l2 k2)).setCell ⟨w.heap.size + 1 + 1 + 1, 0, none⟩ (.bool c2)).setCell ⟨w.heap.size + 1 + 1 + 1, 1, none⟩ (.slice A3 l3 k3)).setCell ⟨w.heap.size + 1 + 1 + 1, 2, none⟩ (.slice A4 l4 k4)) := ⟨_, rfl⟩
  rw [← hV] at bx4 bx5 kn kb ⊢
  clear hV p0 p1 p2 q0 q1 q2 s0 s1 s2 f0 f1 f2 t0 t1 t2 g0 g1 g2 Q4 Q5
  have kbd : Below w.heap.size w V.drew := kb.drew
  have knd : ∀ (v : Value) (n : Nat), Nums 64 .u64 WB W3 v n → Nums 64 .u64 WB V.drew v n := fun v n h => (kn v n h).below (Below.refl V.heap.size V).drew (Nat.le_refl _)
  obtain ⟨x0, x1', x2', _, _, _⟩ := (bx4.below (Below.refl V.heap.size V).drew bx4.lt).three
  obtain ⟨y0, y1', y2', _, _, _⟩ := (bx5.below (Below.refl V.heap.size V).drew bx5.lt).three
  have Kbd := Lib.hid kbd
  have Knd := Lib.hid knd
  clear bx4 bx5 kn kb kbd knd
  go_wp2_with fail
  refine bodyPost_ret (v := .tuple #[.agg #[.bool c1, .slice A1 l1 k1, .slice A2 l2 k2], .agg #[.bool c2, .slice A3 l3 k3, .slice A4 l4 k4], .bool r2]) (by simp [results, Tryd.results14, go_sem, x0, x1', x2', y0, y1', y2']; done) rfl ?_
  refine ⟨⟨c1, A1, l1, k1, A2, l2, k2, c2, A3, l3, k3, A4, l4, k4, rfl, fun h => ?_⟩, Kbd.out⟩
  obtain ⟨⟨e1, n1, n2⟩, e2, n3, n4⟩ := hNK.out h
  exact ⟨⟨e1, Knd.out _ _ n1, Knd.out _ _ n2⟩, e2, Knd.out _ _ n3, Knd.out _ _ n4⟩

set_option maxRecDepth 100000 in
set_option maxHeartbeats 1600000 in
theorem pair_no (b1 : Bool) (x1 y1 : ByteArray) (b2 : Bool) (x2 y2 : ByteArray) (w : World) (hx1 : x1.size ≤ 9223372036854775807) (hy1 : y1.size ≤ 9223372036854775807) (hx2 : x2.size ≤ 9223372036854775807) (hy2 : y2.size ≤ 9223372036854775807) (hU : UnitB w) (hT : Tab64 w) (r2 : Bool) (hr1 : false = validR b1 x1 y1) (hr2 : r2 = validR b2 x2 y2) :
    Calls Tryd.prog 14 #[.agg #[.bool b1, .string x1, .string y1], .agg #[.bool b2, .string x2, .string y2]] w fun e w' => PairPost w b1 x1 y1 b2 x2 y2 false e w' := by
  have C1 : Hid (∀ W, Below w.heap.size w W → _) := Lib.hid fun W hW => fracOf_one b1 x1 y1 W hx1 hy1 (hU.below hW) (hT.below hW) false hr1
  have C2 : Hid (∀ W, Below w.heap.size w W → _) := Lib.hid fun W hW => fracOf_one b2 x2 y2 W hx2 hy2 (hU.below hW) (hT.below hW) r2 hr2
  clear hr1 hr2 hU hT hx1 hy1 hx2 hy2
  have hB := ((((Below.refl w.heap.size w).alloc (Nat.le_refl _) (.cells #[.bool b1, .string x1, .string y1] 25)).alloc (by simp) (.cells #[.bool b2, .string x2, .string y2] 25)).alloc (by simp; omega) (.cells #[.bool false, .slice none 0 0, .slice none 0 0] 43)).alloc (by simp; omega) (.cells #[.bool false, .slice none 0 0, .slice none 0 0] 43)
  have h2 := (((Box.new w 25 #[.bool b1, .string x1, .string y1]).alloc (.cells #[.bool b2, .string x2, .string y2] 25)).alloc (.cells #[.bool false, .slice none 0 0, .slice none 0 0] 43)).alloc (.cells #[.bool false, .slice none 0 0, .slice none 0 0] 43)
  have h3 := ((Box.new (w.alloc (.cells #[.bool b1, .string x1, .string y1] 25)) 25 #[.bool b2, .string x2, .string y2]).alloc (.cells #[.bool false, .slice none 0 0, .slice none 0 0] 43)).alloc (.cells #[.bool false, .slice none 0 0, .slice none 0 0] 43)
  have h4 := (Box.new ((w.alloc (.cells #[.bool b1, .string x1, .string y1] 25)).alloc (.cells #[.bool b2, .string x2, .string y2] 25)) 43 #[.bool false, .slice none 0 0, .slice none 0 0]).alloc (.cells #[.bool false, .slice none 0 0, .slice none 0 0] 43)
  have h5 := Box.new (((w.alloc (.cells #[.bool b1, .string x1, .string y1] 25)).alloc (.cells #[.bool b2, .string x2, .string y2] 25)).alloc (.cells #[.bool false, .slice none 0 0, .slice none 0 0] 43)) 43 #[.bool false, .slice none 0 0, .slice none 0 0]
  have e0 : ∀ (W : World) (o : Obj), (W.alloc o).heap.size = W.heap.size + 1 := fun W o => by simp
  rw [e0] at h3
  rw [e0, e0] at h4
  rw [e0, e0, e0] at h5
  clear e0
  go_enter Tryd.func14, Tryd.ntmps14
  go_upto_region 1 with fail
  obtain ⟨W, hW⟩ : ∃ W, W = (((w.alloc (.cells #[.bool b1, .string x1, .string y1] 25)).alloc (.cells #[.bool b2, .string x2, .string y2] 25)).alloc (.cells #[.bool false, .slice none 0 0, .slice none 0 0] 43)).alloc (.cells #[.bool false, .slice none 0 0, .slice none 0 0] 43) := ⟨_, rfl⟩
  rw [← hW] at hB h2 h3 h4 h5 ⊢
  clear hW
  obtain ⟨r0, r1, r2, _, _, _⟩ := h2.three
  obtain ⟨s0, s1, s2, _, _, _⟩ := h3.three
  have HB := Lib.hid hB; clear hB
  have H3 := Lib.hid h3; clear h3
  have H4 := Lib.hid h4; clear h4
  have H5 := Lib.hid h5; clear h5 h2
  go_upto_region 3 with (first
    | (go_at_call_of 26 (Value.agg #[.bool b1, .string x1, .string y1]); refine (C1.out _ HB.out).mono ?_; rintro e w1 ⟨⟨c1, A1, l1, k1, A2, l2, k2, rfl, hn1⟩, hb1⟩; have HN1 := Lib.hid hn1; have hz1 : w.heap.size + 4 ≤ w1.heap.size := (by have := H5.out.lt; have := hb1.size; omega); have HB1 := Lib.hid ((HB.out.trans (hb1.mono HB.out.size)).alloc (HB.out.trans (hb1.mono HB.out.size)).size (.cells #[.bool c1, .slice A1 l1 k1, .slice A2 l2 k2] 43)); have h31 := (H3.out.below hb1 H3.out.lt).alloc (.cells #[.bool c1, .slice A1 l1 k1, .slice A2 l2 k2] 43); have H41 := Lib.hid ((H4.out.below hb1 H4.out.lt).alloc (.cells #[.bool c1, .slice A1 l1 k1, .slice A2 l2 k2] 43)); have H51 := Lib.hid ((H5.out.below hb1 H5.out.lt).alloc (.cells #[.bool c1, .slice A1 l1 k1, .slice A2 l2 k2] 43)); have H71 := Lib.hid (Box.new w1 43 #[.bool c1, .slice A1 l1 k1, .slice A2 l2 k2]); clear r0 r1 r2 s0 s1 s2 hb1 hn1; obtain ⟨s0, s1, s2, _, _, _⟩ := h31.three; clear h31)
    | (go_at_call_of 26 (Value.agg #[.bool b2, .string x2, .string y2]); refine (C2.out _ HB1.out).mono ?_; rintro e w2 ⟨⟨c2, A3, l3, k3, A4, l4, k4, rfl, hn2⟩, hb2⟩; have HN2 := Lib.hid hn2; have Hb2 := Lib.hid hb2; clear s0 s1 s2 hb2 hn2))
  obtain ⟨W3, hW3⟩ : ∃ W3, W3 = w2.alloc (.cells #[.bool c2, .slice A3 l3 k3, .slice A4 l4 k4] 43) := ⟨_, rfl⟩
  have hb2 := Hb2.out
  have hbx := (Below.refl w2.heap.size w2).alloc (Nat.le_refl _) (.cells #[.bool c2, .slice A3 l3 k3, .slice A4 l4 k4] 43)
  have h4 := (H41.out.below hb2 H41.out.lt).alloc (.cells #[.bool c2, .slice A3 l3 k3, .slice A4 l4 k4] 43)
  have h5 := (H51.out.below hb2 H51.out.lt).alloc (.cells #[.bool c2, .slice A3 l3 k3, .slice A4 l4 k4] 43)
  have h7 := (H71.out.below hb2 H71.out.lt).alloc (.cells #[.bool c2, .slice A3 l3 k3, .slice A4 l4 k4] 43)
  have h9 := Box.new w2 43 #[.bool c2, .slice A3 l3 k3, .slice A4 l4 k4]
  have hz2 : w1.heap.size + 1 ≤ w2.heap.size := by have := hb2.size; simp at this; omega
  have hB3 := HB1.out.trans (hb2.mono HB1.out.size)
  have hB4 := hB3.alloc hB3.size (.cells #[.bool c2, .slice A3 l3 k3, .slice A4 l4 k4] 43)
  have H3' := Lib.hid hB4
  obtain ⟨G7, hG7⟩ : ∃ G, G = w1.heap.size := ⟨_, rfl⟩
  obtain ⟨G9, hG9⟩ : ∃ G, G = w2.heap.size := ⟨_, rfl⟩
  rw [← hG7] at h7 hz1 hz2 ⊢
  rw [← hG9] at h9 hz2 ⊢
  rw [← hW3] at h4 h5 h7 h9 ⊢
  have hBB : Hid (Below w.heap.size w W3) := Lib.hid (by rw [hW3]; exact hB4)
  clear H3' hB3 hB4 hb2 hbx HN1 HN2 Hb2 H41 H51 H71 H3 H4 H5 HB HB1 C1 C2 hW3 hG7 hG9
  obtain ⟨p0, p1, p2, _, _, _⟩ := h7.three
  obtain ⟨q0, q1, q2, _, _, _⟩ := h9.three
  obtain ⟨s0, s1, s2, f0, f1, f2⟩ := h4.three
  obtain ⟨t0, t1, t2, g0, g1, g2⟩ := h5.three
  have a1 : w.heap.size + 1 + 1 ≠ G7 := by omega
  have a2 : w.heap.size + 1 + 1 ≠ G9 := by omega
  have a3 : w.heap.size + 1 + 1 + 1 ≠ G7 := by omega
  have a4 : w.heap.size + 1 + 1 + 1 ≠ G9 := by omega
  have a5 : w.heap.size + 1 + 1 ≠ w.heap.size + 1 + 1 + 1 := by omega
  clear hz1 hz2
  have Q4 := Lib.hid h4
  have Q5 := Lib.hid h5
  clear h4 h5 h7 h9
  go_region
  have bx4 : Box ((((((W3.setCell ⟨w.heap.size + 1 + 1, 0, none⟩ (.bool c1)).setCell ⟨w.heap.size + 1 + 1, 1, none⟩ (.slice A1 l1 k1)).setCell ⟨w.heap.size + 1 + 1, 2, none⟩ (.slice A2 l2 k2)).setCell ⟨w.heap.size + 1 + 1 + 1, 0, none⟩ (.bool c2)).setCell ⟨w.heap.size + 1 + 1 + 1, 1, none⟩ (.slice A3 l3 k3)).setCell ⟨w.heap.size + 1 + 1 + 1, 2, none⟩ (.slice A4 l4 k4)) (w.heap.size + 1 + 1) 43 #[.bool c1, .slice A1 l1 k1, .slice A2 l2 k2] :=
    (((((Q4.out.set 0 _).set 1 _).set 2 _).other a5.symm 0 _).other a5.symm 1 _).other a5.symm 2 _
  have bx5 : Box ((((((W3.setCell ⟨w.heap.size + 1 + 1, 0, none⟩ (.bool c1)).setCell ⟨w.heap.size + 1 + 1, 1, none⟩ (.slice A1 l1 k1)).setCell ⟨w.heap.size + 1 + 1, 2, none⟩ (.slice A2 l2 k2)).setCell ⟨w.heap.size + 1 + 1 + 1, 0, none⟩ (.bool c2)).setCell ⟨w.heap.size + 1 + 1 + 1, 1, none⟩ (.slice A3 l3 k3)).setCell ⟨w.heap.size + 1 + 1 + 1, 2, none⟩ (.slice A4 l4 k4)) (w.heap.size + 1 + 1 + 1) 43 #[.bool c2, .slice A3 l3 k3, .slice A4 l4 k4] :=
    (((((Q5.out.other a5 0 _).other a5 1 _).other a5 2 _).set 0 _).set 1 _).set 2 _
  have kb : Below w.heap.size w ((((((W3.setCell ⟨w.heap.size + 1 + 1, 0, none⟩ (.bool c1)).setCell ⟨w.heap.size + 1 + 1, 1, none⟩ (.slice A1 l1 k1)).setCell ⟨w.heap.size + 1 + 1, 2, none⟩ (.slice A2 l2 k2)).setCell ⟨w.heap.size + 1 + 1 + 1, 0, none⟩ (.bool c2)).setCell ⟨w.heap.size + 1 + 1 + 1, 1, none⟩ (.slice A3 l3 k3)).setCell ⟨w.heap.size + 1 + 1 + 1, 2, none⟩ (.slice A4 l4 k4)) :=
    below_put3 (below_put3 hBB.out (by omega) _ _ _) (by omega) _ _ _
  obtain ⟨V, hV⟩ : ∃ V, V = ((((((W3.setCell ⟨w.heap.size + 1 + 1, 0, none⟩ (.bool c1)).setCell ⟨w.heap.size + 1 + 1, 1, none⟩ (.slice A1 l1 k1)).setCell ⟨w.heap.size + 1 + 1, 2, none⟩ (.slice A2 l2 k2)).setCell ⟨w.heap.size + 1 + 1 + 1, 0, none⟩ (.bool c2)).setCell ⟨w.heap.size + 1 + 1 + 1, 1, none⟩ (.slice A3 l3 k3)).setCell ⟨w.heap.size + 1 + 1 + 1, 2, none⟩ (.slice A4 l4 k4)) := ⟨_, rfl⟩
  rw [← hV] at bx4 bx5 kb ⊢
  clear hV p0 p1 p2 q0 q1 q2 s0 s1 s2 f0 f1 f2 t0 t1 t2 g0 g1 g2 Q4 Q5
  have kbd : Below w.heap.size w V.drew := kb.drew
  obtain ⟨x0, x1', x2', _, _, _⟩ := (bx4.below (Below.refl V.heap.size V).drew bx4.lt).three
  obtain ⟨y0, y1', y2', _, _, _⟩ := (bx5.below (Below.refl V.heap.size V).drew bx5.lt).three
  have Kbd := Lib.hid kbd
  clear bx4 bx5 kb kbd
  go_wp2_with fail
  refine bodyPost_ret (v := .tuple #[.agg #[.bool c1, .slice A1 l1 k1, .slice A2 l2 k2], .agg #[.bool c2, .slice A3 l3 k3, .slice A4 l4 k4], .bool false]) (by simp [results, Tryd.results14, go_sem, x0, x1', x2', y0, y1', y2']; done) rfl ?_
  exact ⟨⟨c1, A1, l1, k1, A2, l2, k2, c2, A3, l3, k3, A4, l4, k4, rfl, fun h => by cases h⟩, Kbd.out⟩

theorem pair_any (b1 : Bool) (x1 y1 : ByteArray) (b2 : Bool) (x2 y2 : ByteArray) (w : World) (hx1 : x1.size ≤ 9223372036854775807) (hy1 : y1.size ≤ 9223372036854775807) (hx2 : x2.size ≤ 9223372036854775807) (hy2 : y2.size ≤ 9223372036854775807) (hU : UnitB w) (hT : Tab64 w) :
    Calls Tryd.prog 14 #[.agg #[.bool b1, .string x1, .string y1], .agg #[.bool b2, .string x2, .string y2]] w fun e w' => PairPost w b1 x1 y1 b2 x2 y2 (validR b1 x1 y1 && validR b2 x2 y2) e w' := by
  cases h : validR b1 x1 y1 with
  | true => exact pair_yes b1 x1 y1 b2 x2 y2 w hx1 hy1 hx2 hy2 hU hT _ h.symm rfl
  | false => exact pair_no b1 x1 y1 b2 x2 y2 w hx1 hy1 hx2 hy2 hU hT _ h.symm rfl

end Go.Proofs.YtbcckgofoknmbaaDoor
/-
  The program's CompareRat.
-/
namespace Go.Proofs.YtbcckgofoknmbaaDoor
open Go.RowKit Num

theorem ln_capW {s : ByteArray} (h : isNum s = true) : ln WB (numOf s) ≤ 549755813888 :=
  Nat.le_trans (ln_le_of_lt WB _ 7 (by unfold WB; omega) (Nat.lt_of_lt_of_le (numOf_lt h) pow120)) (by omega)

theorem validR_num {b : Bool} {x y : ByteArray} (h : validR b x y = true) : isNum x = true ∧ isNum y = true ∧ numOf y ≠ 0 ∧ (numOf x = 0 → b = false) := by
  unfold validR at h
  simp only [Bool.and_eq_true, decide_eq_true_eq] at h
  exact ⟨h.1.1.1.1, h.1.1.1.2, h.1.1.2, fun e => (h.1.2 e).1⟩

/-- What the comparison of two Rats hands back. -/
def cmpRes (b1 : Bool) (x1 y1 : ByteArray) (b2 : Bool) (x2 y2 : ByteArray) : Int :=
  if (validR b1 x1 y1 && validR b2 x2 y2) = true then cmpR b1 (numOf x1) (numOf y1) b2 (numOf x2) (numOf y2) else 0

end Go.Proofs.YtbcckgofoknmbaaDoor
