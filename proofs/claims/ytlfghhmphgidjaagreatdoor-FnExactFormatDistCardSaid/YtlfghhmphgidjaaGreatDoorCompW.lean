/-
  Several texts in one: CompF, CompR, CompI.
-/
import Derived.Test.YtlfghhmphgidjaaGreatDoorGcdN
import Derived.Test.YtlfghhmphgidjaaGreatDoorFracOfB
import Derived.Test.YtlfghhmphgidjaaGreatDoorPWord
import Derived.Test.YtlfghhmphgidjaaGreatDoorFracLaw
import Derived.BigRegion
/-
  The program's comparison of two fractions.
-/
namespace Go.Proofs.YtlfghhmphgidjaaGreatDoor
open Go.RowKit Num

/-- The order of two fractions, as the document's chapter 1 has it. -/
def cmpR (b1 : Bool) (n1 d1 : Nat) (b2 : Bool) (n2 d2 : Nat) : Int :=
  if b1 = b2 then (if b1 = true then -(cmpI (n1 * d2) (n2 * d1)) else cmpI (n1 * d2) (n2 * d1)) else (if b1 = true then -1 else 1)

theorem cmpI_bd (x y : Nat) : -1 ≤ cmpI x y ∧ cmpI x y ≤ 1 := by unfold cmpI; split <;> (try split) <;> omega

theorem Box.other {w : World} {G H : Nat} {t : TypeId} {cs : Array Value} (h : Box w G t cs) (hne : H ≠ G) (i : Nat) (v : Value) : Box (w.setCell ⟨H, i, none⟩ v) G t cs := by
  unfold Box at h ⊢
  simp [World.setCell, Array.getElem?_modify, hne, h]

theorem hold6 {W w' : World} {G H : Nat} {t u : TypeId} {a b c d e f : Value} (h : Box W G t #[a, b, c]) (k : Box W H u #[d, e, f]) (hb : Below W.heap.size W w') : w'.cell? ⟨G, 0, none⟩ = some a ∧ w'.cell? ⟨G, 1, none⟩ = some b ∧ w'.cell? ⟨G, 2, none⟩ = some c ∧ w'.cell? ⟨H, 0, none⟩ = some d ∧ w'.cell? ⟨H, 1, none⟩ = some e ∧ w'.cell? ⟨H, 2, none⟩ = some f ∧ Below W.heap.size W w' := by
  obtain ⟨h1, h2, h3, _⟩ := (h.below hb h.lt).three
  obtain ⟨k1, k2, k3, _⟩ := (k.below hb k.lt).three
  exact ⟨h1, h2, h3, k1, k2, k3, hb⟩
theorem hold6_below {W w' : World} {a b c d e f : Prop} (h : a ∧ b ∧ c ∧ d ∧ e ∧ f ∧ Below W.heap.size W w') : Below W.heap.size W w' := h.2.2.2.2.2.2
theorem drawn_below {e r : Ending} {w w' : World} (h : e = r ∧ ∃ nq, w' = w.drewN nq) : e = r ∧ Below w.heap.size w w' := by
  obtain ⟨h, nq, rfl⟩ := h
  exact ⟨h, below_drewN nq (Below.refl _ w)⟩

set_option maxRecDepth 100000 in
set_option maxHeartbeats 1600000 in
theorem cmpF_same (b : Bool) (v1 v2 v3 v4 : Value) (n1 d1 n2 d2 : Nat) (w : World) (h1 : Nums 143 .u64 WB w v1 n1) (h2 : Nums 143 .u64 WB w v2 d1) (h3 : Nums 143 .u64 WB w v3 n2) (h4 : Nums 143 .u64 WB w v4 d2)
    (l1 : ln WB n1 ≤ 549755813888) (l2 : ln WB d1 ≤ 549755813888) (l3 : ln WB n2 ≤ 549755813888) (l4 : ln WB d2 ≤ 549755813888) (c : Int) (hc : c = cmpI (n1 * d2) (n2 * d1)) :
    Calls Tryz.prog 97 #[.agg #[.bool b, v1, v2], .agg #[.bool b, v3, v4]] w fun e w' => e = .returned (.int .i64 (if b = true then -c else c)) ∧ Below w.heap.size w w' := by
  obtain ⟨A1, c1, rfl, _, _, _⟩ := RowF.open h1
  obtain ⟨A2, c2, rfl, _, _, _⟩ := RowF.open h2
  obtain ⟨A3, c3, rfl, _, _, _⟩ := RowF.open h3
  obtain ⟨A4, c4, rfl, _, _, _⟩ := RowF.open h4
  have hcb := cmpI_bd (n1 * d2) (n2 * d1)
  rw [← hc] at hcb
  have hcw : IntKind.i64.wrap (-c) = -c := IntWalk.i64_in _ (by omega)
  have hR := (Box.new w 85 #[.bool b, .slice A1 (ln WB n1) c1, .slice A2 (ln WB d1) c2]).alloc (.cells #[.bool b, .slice A3 (ln WB n2) c3, .slice A4 (ln WB d2) c4] 85)
  have hQ := Box.new (w.alloc (.cells #[.bool b, .slice A1 (ln WB n1) c1, .slice A2 (ln WB d1) c2] 85)) 85 #[.bool b, .slice A3 (ln WB n2) c3, .slice A4 (ln WB d2) c4]
  rw [show (w.alloc (.cells #[.bool b, .slice A1 (ln WB n1) c1, .slice A2 (ln WB d1) c2] 85)).heap.size = w.heap.size + 1 by simp] at hQ
  have hB := ((Below.refl w.heap.size w).alloc (Nat.le_refl _) (.cells #[.bool b, .slice A1 (ln WB n1) c1, .slice A2 (ln WB d1) c2] 85)).alloc (by simp) (.cells #[.bool b, .slice A3 (ln WB n2) c3, .slice A4 (ln WB d2) c4] 85)
  replace h1 := h1.below hB (Nat.le_refl _)
  replace h2 := h2.below hB (Nat.le_refl _)
  replace h3 := h3.below hB (Nat.le_refl _)
  replace h4 := h4.below hB (Nat.le_refl _)
  obtain ⟨r0, r1, r2, _, _, _⟩ := hR.three
  obtain ⟨z0, z1, z2, _, _, _⟩ := hQ.three
  have HB := Lib.hid hB; clear hB
  have H1 := Lib.hid h1
  have H2 := Lib.hid h2
  have H3 := Lib.hid h3
  have H4 := Lib.hid h4
  have Hc := Lib.hid hc
  clear h1 h2 h3 h4 hc
  have hne : (b != b) = false := by cases b <;> rfl
  go_enter Tryz.func97, Tryz.ntmps97
  go_upto_region 5 with fail
  obtain ⟨W, hW⟩ : ∃ W, W = (w.alloc (.cells #[.bool b, .slice A1 (ln WB n1) c1, .slice A2 (ln WB d1) c2] 85)).alloc (.cells #[.bool b, .slice A3 (ln WB n2) c3, .slice A4 (ln WB d2) c4] 85) := ⟨_, rfl⟩
  rw [← hW] at HB H1 H2 H3 H4 hR hQ r0 r1 r2 z0 z1 z2 ⊢
  clear hW
  go_cut [5] (fun s5 wx => s5 = .int .i64 c ∧ Below W.heap.size W wx)
  case first =>
    go_region_held3 (fun w' => w'.cell? ⟨w.heap.size, 0, none⟩ = some (.bool b) ∧ w'.cell? ⟨w.heap.size, 1, none⟩ = some (.slice A1 (ln WB n1) c1) ∧ w'.cell? ⟨w.heap.size, 2, none⟩ = some (.slice A2 (ln WB d1) c2) ∧ w'.cell? ⟨w.heap.size + 1, 0, none⟩ = some (.bool b) ∧ w'.cell? ⟨w.heap.size + 1, 1, none⟩ = some (.slice A3 (ln WB n2) c3) ∧ w'.cell? ⟨w.heap.size + 1, 2, none⟩ = some (.slice A4 (ln WB d2) c4) ∧ Below W.heap.size W w')
      ((refine hold6 hR hQ ?_; first | exact (Below.refl _ W).drew | (refine below_step (hold6_below (by assumption)) ?_; assumption)))
      (first
        | (go_at_call_of 144 (Value.slice A1 (ln WB n1) c1); refine (mulNats_any _ _ n1 d2 _ (H1.out.below (hold6_below (by assumption)) (Nat.le_refl _)) (H4.out.below (hold6_below (by assumption)) (Nat.le_refl _)) l1 l4).mono ?_; rintro e w1 ⟨⟨v1, rfl, hv1⟩, hb1⟩; have Hv1 := Lib.hid hv1; clear hv1)
        | (go_at_call_of 144 (Value.slice A3 (ln WB n2) c3); refine (mulNats_any _ _ n2 d1 _ (H3.out.below (hold6_below (by assumption)) (Nat.le_refl _)) (H2.out.below (hold6_below (by assumption)) (Nat.le_refl _)) l3 l2).mono ?_; rintro e w2 ⟨⟨v2, rfl, hv2⟩, hb2⟩; have Hv2 := Lib.hid hv2; clear hv2)
        | (go_at_call 142; refine ((cmpW_any v1 v2 (n1 * d2) (n2 * d1) _ (by first | exact Hv1.out | exact Hv1.out.below hb2 (Nat.le_refl _)) (by first | exact Hv2.out | exact Hv2.out.below hb1 (Nat.le_refl _))).mono fun e w' h => drawn_below h).mono ?_; rintro e w3 ⟨rfl, hb3⟩))
    all_goals go_wp2_with fail
    all_goals go_meet
    all_goals exact ⟨by rw [Hc.out], hold6_below (by assumption)⟩
  obtain ⟨rfl, hb⟩ := hcut
  obtain ⟨r0, r1, r2, _, _, _⟩ := (hR.below hb hR.lt).three
  have Hfin := Lib.hid (HB.out.trans (hb.mono HB.out.size))
  clear hb
  cases b with
  | true =>
    go_wp2_with fail
    go_ret
    exact ⟨rfl, Hfin.out⟩
  | false =>
    go_wp2_with fail
    go_ret
    exact ⟨rfl, Hfin.out⟩

end Go.Proofs.YtlfghhmphgidjaaGreatDoor
/-
  The program's comparison of two Rats.
-/
namespace Go.Proofs.YtlfghhmphgidjaaGreatDoor
open Go.RowKit Num

set_option maxRecDepth 100000 in
set_option maxHeartbeats 1600000 in
theorem cmpF_diff (b : Bool) (v1 v2 v3 v4 : Value) (n1 d1 n2 d2 : Nat) (w : World) (h1 : Nums 143 .u64 WB w v1 n1) (h2 : Nums 143 .u64 WB w v2 d1) (h3 : Nums 143 .u64 WB w v3 n2) (h4 : Nums 143 .u64 WB w v4 d2) :
    Calls Tryz.prog 97 #[.agg #[.bool b, v1, v2], .agg #[.bool !b, v3, v4]] w fun e w' => e = .returned (.int .i64 (if b = true then -1 else 1)) ∧ Below w.heap.size w w' := by
  obtain ⟨A1, c1, rfl, _, _, _⟩ := RowF.open h1
  obtain ⟨A2, c2, rfl, _, _, _⟩ := RowF.open h2
  obtain ⟨A3, c3, rfl, _, _, _⟩ := RowF.open h3
  obtain ⟨A4, c4, rfl, _, _, _⟩ := RowF.open h4
  clear h1 h2 h3 h4
  cases b with
  | true =>
    go_enter Tryz.func97, Tryz.ntmps97
    go_wp2_with fail
    go_ret
    exact ⟨rfl, ((Below.refl w.heap.size w).alloc (Nat.le_refl _) _).alloc (by simp) _⟩
  | false =>
    go_enter Tryz.func97, Tryz.ntmps97
    go_wp2_with fail
    go_ret
    exact ⟨rfl, ((Below.refl w.heap.size w).alloc (Nat.le_refl _) _).alloc (by simp) _⟩

theorem cmpF_any (b1 b2 : Bool) (v1 v2 v3 v4 : Value) (n1 d1 n2 d2 : Nat) (w : World) (h1 : Nums 143 .u64 WB w v1 n1) (h2 : Nums 143 .u64 WB w v2 d1) (h3 : Nums 143 .u64 WB w v3 n2) (h4 : Nums 143 .u64 WB w v4 d2)
    (l1 : ln WB n1 ≤ 549755813888) (l2 : ln WB d1 ≤ 549755813888) (l3 : ln WB n2 ≤ 549755813888) (l4 : ln WB d2 ≤ 549755813888) :
    Calls Tryz.prog 97 #[.agg #[.bool b1, v1, v2], .agg #[.bool b2, v3, v4]] w fun e w' => e = .returned (.int .i64 (cmpR b1 n1 d1 b2 n2 d2)) ∧ Below w.heap.size w w' := by
  unfold cmpR
  by_cases h : b1 = b2
  · subst h
    rw [if_pos rfl]
    exact cmpF_same b1 v1 v2 v3 v4 n1 d1 n2 d2 w h1 h2 h3 h4 l1 l2 l3 l4 _ rfl
  · rw [if_neg h]
    obtain rfl : b2 = !b1 := by cases b1 <;> cases b2 <;> simp_all
    exact cmpF_diff b1 v1 v2 v3 v4 n1 d1 n2 d2 w h1 h2 h3 h4

/-- A Rat read as a fraction: what comes back, with a word on whether it could be read. -/
theorem fracOf_one (b : Bool) (x y : ByteArray) (w : World) (hx : x.size ≤ 9223372036854775807) (hy : y.size ≤ 9223372036854775807) (hU : UnitB w) (hT : Tab64 w) (r : Bool) (hr : r = validR b x y) :
    Calls Tryz.prog 88 #[.agg #[.bool b, .string x, .string y]] w fun e w' => (∃ c A l k A' l' k', e = .returned (.tuple #[.agg #[.bool c, .slice A l k, .slice A' l' k'], .bool r]) ∧ (r = true → c = b ∧ Nums 143 .u64 WB w' (.slice A l k) (numOf x) ∧ Nums 143 .u64 WB w' (.slice A' l' k') (numOf y))) ∧ Below w.heap.size w w' := by
  refine (fracOf_all b x y w hx hy hU hT).mono fun e w' h => ⟨?_, h.2⟩
  have h1 := h.1
  rw [← hr] at h1
  cases r with
  | true =>
    rw [if_pos rfl] at h1
    obtain ⟨vn, vd, rfl, hn, hd⟩ := h1
    obtain ⟨An, cn, rfl, _, _, _⟩ := RowF.open hn
    obtain ⟨Ad, cd, rfl, _, _, _⟩ := RowF.open hd
    exact ⟨b, _, _, _, _, _, _, rfl, fun _ => ⟨rfl, hn, hd⟩⟩
  | false =>
    rw [if_neg (by decide)] at h1
    exact ⟨false, none, 0, 0, none, 0, 0, h1, fun h => by cases h⟩

def PairPost (w : World) (b1 : Bool) (x1 y1 : ByteArray) (b2 : Bool) (x2 y2 : ByteArray) (r : Bool) (e : Ending) (w' : World) : Prop :=
  (∃ c1 A1 l1 k1 A2 l2 k2 c2 A3 l3 k3 A4 l4 k4, e = .returned (.tuple #[.agg #[.bool c1, .slice A1 l1 k1, .slice A2 l2 k2], .agg #[.bool c2, .slice A3 l3 k3, .slice A4 l4 k4], .bool r]) ∧
    (r = true → (c1 = b1 ∧ Nums 143 .u64 WB w' (.slice A1 l1 k1) (numOf x1) ∧ Nums 143 .u64 WB w' (.slice A2 l2 k2) (numOf y1)) ∧ (c2 = b2 ∧ Nums 143 .u64 WB w' (.slice A3 l3 k3) (numOf x2) ∧ Nums 143 .u64 WB w' (.slice A4 l4 k4) (numOf y2)))) ∧ Below w.heap.size w w'

end Go.Proofs.YtlfghhmphgidjaaGreatDoor
/-
  The program's CompareRat.
-/
namespace Go.Proofs.YtlfghhmphgidjaaGreatDoor
open Go.RowKit Num

theorem ln_capW {s : ByteArray} (h : isNum s = true) : ln WB (numOf s) ≤ 549755813888 :=
  Nat.le_trans (ln_le_of_lt WB _ 7 (by unfold WB; omega) (Nat.lt_of_lt_of_le (numOf_lt h) pow120)) (by omega)

theorem validR_num {b : Bool} {x y : ByteArray} (h : validR b x y = true) : isNum x = true ∧ isNum y = true ∧ numOf y ≠ 0 ∧ (numOf x = 0 → b = false) := by
  unfold validR at h
  simp only [Bool.and_eq_true, decide_eq_true_eq] at h
  exact ⟨h.1.1.1.1, h.1.1.1.2, h.1.1.2, fun e => (h.1.2 e).1⟩

/-- What the comparison of two Rats hands back. -/
def cmpRes (b1 : Bool) (x1 y1 : ByteArray) (b2 : Bool) (x2 y2 : ByteArray) : Int :=
  if (validR b1 x1 y1 && validR b2 x2 y2) = true then cmpR b1 (numOf x1) (numOf y1) b2 (numOf x2) (numOf y2) else 0

end Go.Proofs.YtlfghhmphgidjaaGreatDoor
