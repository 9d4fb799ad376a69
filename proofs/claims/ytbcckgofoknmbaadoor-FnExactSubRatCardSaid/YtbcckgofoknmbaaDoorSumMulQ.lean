/-
  Several texts in one: SumQ, MulQ.
-/
import Derived.Test.YtbcckgofoknmbaaDoorPBlock
import Derived.Test.YtbcckgofoknmbaaDoorM2
import Derived.Test.YtbcckgofoknmbaaDoorCompW
/-
  Several texts in one: Qs, AddQ, CmpQ.
-/
/-
  The model's fraction of a Rat, and the negative of a fraction.
-/
namespace Go.Proofs.YtbcckgofoknmbaaDoor
open Go.RowKit Num

/-- A box of three cells, whatever lies in it. -/
def Boxy (w : World) (G : Nat) (t : TypeId) : Prop := ∃ a b c, Box w G t #[a, b, c]
theorem Boxy.below {w w' : World} {G : Nat} {t : TypeId} (h : Boxy w G t) (hb : Below w.heap.size w w') : Boxy w' G t := by
  obtain ⟨a, b, c, h⟩ := h
  exact ⟨a, b, c, h.below hb h.lt⟩
theorem Boxy.put {w : World} {G : Nat} {t : TypeId} (h : Boxy w G t) (x y z : Value) : Boxy (((w.setCell ⟨G, 0, none⟩ x).setCell ⟨G, 1, none⟩ y).setCell ⟨G, 2, none⟩ z) G t := by
  obtain ⟨a, b, c, h⟩ := h
  exact ⟨_, _, _, ((h.set 0 _).set 1 _).set 2 _⟩
theorem holdB {W w' : World} {B G Q : Nat} {t u : TypeId} {a b c : Value} (h : Box W G t #[a, b, c]) (hG : G < B) (hb : Below B W w') (hq : Boxy w' Q u) : w'.cell? ⟨G, 0, none⟩ = some a ∧ w'.cell? ⟨G, 1, none⟩ = some b ∧ w'.cell? ⟨G, 2, none⟩ = some c ∧ Below B W w' ∧ Boxy w' Q u := by
  obtain ⟨h1, h2, h3, _⟩ := (h.below hb hG).three
  exact ⟨h1, h2, h3, hb, hq⟩
theorem holdB_below {W w' : World} {B Q : Nat} {u : TypeId} {p q r : Prop} (h : p ∧ q ∧ r ∧ Below B W w' ∧ Boxy w' Q u) : Below B W w' := h.2.2.2.1
theorem holdB_boxy {W w' : World} {B Q : Nat} {u : TypeId} {p q r : Prop} (h : p ∧ q ∧ r ∧ Below B W w' ∧ Boxy w' Q u) : Boxy w' Q u := h.2.2.2.2
theorem stepB {W w1 w2 : World} {B : Nat} (hB : B ≤ W.heap.size) (h : Below B W w1) (k : Below w1.heap.size w1 w2) : Below B W w2 := h.trans (k.mono (Nat.le_trans hB h.size))

set_option maxRecDepth 100000 in
set_option maxHeartbeats 1600000 in
theorem toQ_any (b : Bool) (x y : ByteArray) (w : World) (nx : isNum x = true) (ny : isNum y = true) :
    Calls Tryd.prog 12 #[.agg #[.bool b, .string x, .string y]] w fun e w' => (∃ v, e = .returned v ∧ IsQ w' v b (numOf x) (numOf y)) ∧ Below w.heap.size w w' := by
  have C3 : Hid (∀ W, _) := Lib.hid fun W => fromText_any x W nx
  have C4 : Hid (∀ W, _) := Lib.hid fun W => fromText_any y W ny
  have hR := (Box.new w 25 #[.bool b, .string x, .string y]).alloc (.cells #[.bool false, .slice none 0 0, .slice none 0 0] 36)
  have hQ := Box.new (w.alloc (.cells #[.bool b, .string x, .string y] 25)) 36 #[.bool false, .slice none 0 0, .slice none 0 0]
  rw [show (w.alloc (.cells #[.bool b, .string x, .string y] 25)).heap.size = w.heap.size + 1 by simp] at hQ
  have hB := ((Below.refl w.heap.size w).alloc (Nat.le_refl _) (.cells #[.bool b, .string x, .string y] 25)).alloc (by simp) (.cells #[.bool false, .slice none 0 0, .slice none 0 0] 36)
  clear nx ny
  go_enter Tryd.func12, Tryd.ntmps12
  go_upto_region 1 with fail
  obtain ⟨W, hW⟩ : ∃ W, W = (w.alloc (.cells #[.bool b, .string x, .string y] 25)).alloc (.cells #[.bool false, .slice none 0 0, .slice none 0 0] 36) := ⟨_, rfl⟩
  rw [← hW] at hR hQ hB ⊢
  clear hW
  have HB := Lib.hid hB; clear hB
  have hsz : w.heap.size + 1 ≤ W.heap.size := by have := hQ.lt; omega
  have hq0 : Boxy W (w.heap.size + 1) 36 := ⟨_, _, _, hQ⟩
  go_region_held3 (fun w' => w'.cell? ⟨w.heap.size, 0, none⟩ = some (.bool b) ∧ w'.cell? ⟨w.heap.size, 1, none⟩ = some (.string x) ∧ w'.cell? ⟨w.heap.size, 2, none⟩ = some (.string y) ∧ Below (w.heap.size + 1) W w' ∧ Boxy w' (w.heap.size + 1) 36)
    ((refine holdB hR (Nat.lt_succ_self _) ?_ ?_ <;> first | exact (Below.refl _ W).drew | exact hq0.below (Below.refl _ W).drew | (refine stepB hsz (holdB_below (by assumption)) ?_; assumption) | (refine Boxy.below (holdB_boxy (by assumption)) ?_; assumption) | exact below_put3 (holdB_below (by assumption)) (Nat.le_refl _) _ _ _ | exact Boxy.put (holdB_boxy (by assumption)) _ _ _))
    (first
      | (go_at_call_of 19 (Value.string x); (with_reducible refine (C3.out _).mono ?_); rintro e w1 ⟨⟨v1, rfl, hv1⟩, hb1⟩; obtain ⟨q0, q1, q2, hz⟩ := Boxy.below (holdB_boxy (by assumption)) hb1; obtain ⟨z0, z1, z2, f0, f1, f2⟩ := hz.three; obtain ⟨A1, c1, rfl, _, _, _⟩ := RowF.open hv1)
      | (go_at_call_of 19 (Value.string y); (with_reducible refine (C4.out _).mono ?_); rintro e w2 ⟨⟨v2, rfl, hv2⟩, hb2⟩; obtain ⟨q0, q1, q2, hz⟩ := Boxy.below (holdB_boxy (by assumption)) hb2; obtain ⟨z0, z1, z2, f0, f1, f2⟩ := hz.three; obtain ⟨A2, c2, rfl, _, _, _⟩ := RowF.open hv2))
  all_goals go_wp2_with fail
  all_goals obtain ⟨k0, k1, k2⟩ := hz.put3 (.bool b) (.slice A1 (ln 10000 (numOf x)) c1) (.slice A2 (ln 10000 (numOf y)) c2)
  all_goals refine bodyPost_ret (v := .agg #[.bool b, .slice A1 (ln 10000 (numOf x)) c1, .slice A2 (ln 10000 (numOf y)) c2]) (by simp [results, Tryd.results12, go_sem, k0, k1, k2]; done) rfl ⟨⟨_, rfl, _, _, rfl, ?_, ?_⟩, ?_⟩
  all_goals first
    | exact Nums.put3 (hv1.below hb2 (Nat.le_refl _)) hz (by decide) _ _ _
    | exact Nums.put3 hv1 hz (by decide) _ _ _
    | exact Nums.put3 (hv2.below hb1 (Nat.le_refl _)) hz (by decide) _ _ _
    | exact Nums.put3 hv2 hz (by decide) _ _ _
    | exact HB.out.trans ((holdB_below (by assumption)).mono (Nat.le_succ _))

set_option maxRecDepth 100000 in
set_option maxHeartbeats 1600000 in
theorem negQ_any (neg : Bool) (vn vd : Value) (n d : Nat) (w : World) (hn : Nums 3 .i64 10000 w vn n) (hd : Nums 3 .i64 10000 w vd d) :
    Calls Tryd.prog 13 #[.agg #[.bool neg, vn, vd]] w fun e w' => (∃ v, e = .returned v ∧ IsQ w' v (!neg && decide (0 < n)) n d) ∧ Below w.heap.size w w' := by
  obtain ⟨An, cn, rfl, _, _, _⟩ := RowF.open hn
  obtain ⟨Ad, cd, rfl, _, _, _⟩ := RowF.open hd
  have hin : ∀ r : Bool, r = (!neg && decide (0 < n)) → IsQ ((w.alloc (.cells #[.bool neg, .slice An (ln 10000 n) cn, .slice Ad (ln 10000 d) cd] 36)).alloc (.cells #[.bool r, .slice An (ln 10000 n) cn, .slice Ad (ln 10000 d) cd] 36)) (.agg #[.bool r, .slice An (ln 10000 n) cn, .slice Ad (ln 10000 d) cd]) (!neg && decide (0 < n)) n d ∧ Below w.heap.size w ((w.alloc (.cells #[.bool neg, .slice An (ln 10000 n) cn, .slice Ad (ln 10000 d) cd] 36)).alloc (.cells #[.bool r, .slice An (ln 10000 n) cn, .slice Ad (ln 10000 d) cd] 36)) := by
    intro r hr
    have hB := ((Below.refl w.heap.size w).alloc (Nat.le_refl _) (.cells #[.bool neg, .slice An (ln 10000 n) cn, .slice Ad (ln 10000 d) cd] 36)).alloc (by simp) (.cells #[.bool r, .slice An (ln 10000 n) cn, .slice Ad (ln 10000 d) cd] 36)
    exact ⟨⟨_, _, by rw [← hr], hn.below hB (Nat.le_refl _), hd.below hB (Nat.le_refl _)⟩, hB⟩
  have hkk : ∀ r : Bool, ((w.alloc (.cells #[.bool neg, .slice An (ln 10000 n) cn, .slice Ad (ln 10000 d) cd] 36)).alloc (.cells #[.bool r, .slice An (ln 10000 n) cn, .slice Ad (ln 10000 d) cd] 36)).cell? ⟨w.heap.size + 1, 0, none⟩ = some (.bool r) ∧ ((w.alloc (.cells #[.bool neg, .slice An (ln 10000 n) cn, .slice Ad (ln 10000 d) cd] 36)).alloc (.cells #[.bool r, .slice An (ln 10000 n) cn, .slice Ad (ln 10000 d) cd] 36)).cell? ⟨w.heap.size + 1, 1, none⟩ = some (.slice An (ln 10000 n) cn) ∧ ((w.alloc (.cells #[.bool neg, .slice An (ln 10000 n) cn, .slice Ad (ln 10000 d) cd] 36)).alloc (.cells #[.bool r, .slice An (ln 10000 n) cn, .slice Ad (ln 10000 d) cd] 36)).cell? ⟨w.heap.size + 1, 2, none⟩ = some (.slice Ad (ln 10000 d) cd) := by
    intro r
    have hQ := Box.new (w.alloc (.cells #[.bool neg, .slice An (ln 10000 n) cn, .slice Ad (ln 10000 d) cd] 36)) 36 #[.bool r, .slice An (ln 10000 n) cn, .slice Ad (ln 10000 d) cd]
    rw [show (w.alloc (.cells #[.bool neg, .slice An (ln 10000 n) cn, .slice Ad (ln 10000 d) cd] 36)).heap.size = w.heap.size + 1 by simp] at hQ
    obtain ⟨k0, k1, k2, _, _, _⟩ := hQ.three
    exact ⟨k0, k1, k2⟩
  have hR := Box.new w 36 #[.bool neg, .slice An (ln 10000 n) cn, .slice Ad (ln 10000 d) cd]
  obtain ⟨r0, r1, r2, _, _, _⟩ := hR.three
  have hp := ln_eq_zero 10000 n (by omega)
  clear hn hd
  have Hin := Lib.hid hin
  have Hkk := Lib.hid hkk
  clear hin hkk hR
  cases neg with
  | true =>
    have Hr : Hid (false = (!true && decide (0 < n))) := Lib.hid rfl
    clear hp
    go_enter Tryd.func13, Tryd.ntmps13
    go_wp2_with fail
    obtain ⟨k0, k1, k2⟩ := Hkk.out false
    exact bodyPost_ret (v := .agg #[.bool false, .slice An (ln 10000 n) cn, .slice Ad (ln 10000 d) cd]) (by simp [results, Tryd.results13, go_sem, k0, k1, k2]; done) rfl ⟨⟨_, rfl, (Hin.out false Hr.out).1⟩, (Hin.out false Hr.out).2⟩
  | false =>
    by_cases hl : 0 < ln 10000 n
    · have Hr : Hid (true = (!false && decide (0 < n))) := Lib.hid (by rw [decide_eq_true (show 0 < n by omega)]; rfl)
      clear hp
      go_enter Tryd.func13, Tryd.ntmps13
      go_wp2_with fail
      obtain ⟨k0, k1, k2⟩ := Hkk.out true
      exact bodyPost_ret (v := .agg #[.bool true, .slice An (ln 10000 n) cn, .slice Ad (ln 10000 d) cd]) (by simp [results, Tryd.results13, go_sem, k0, k1, k2]; done) rfl ⟨⟨_, rfl, (Hin.out true Hr.out).1⟩, (Hin.out true Hr.out).2⟩
    · have Hr : Hid (false = (!false && decide (0 < n))) := Lib.hid (by rw [decide_eq_false (show ¬ 0 < n by omega)]; rfl)
      clear hp
      go_enter Tryd.func13, Tryd.ntmps13
      go_wp2_with fail
      obtain ⟨k0, k1, k2⟩ := Hkk.out false
      exact bodyPost_ret (v := .agg #[.bool false, .slice An (ln 10000 n) cn, .slice Ad (ln 10000 d) cd]) (by simp [results, Tryd.results13, go_sem, k0, k1, k2]; done) rfl ⟨⟨_, rfl, (Hin.out false Hr.out).1⟩, (Hin.out false Hr.out).2⟩

end Go.Proofs.YtbcckgofoknmbaaDoor
/-
  The model's sum of two fractions.
-/
namespace Go.Proofs.YtbcckgofoknmbaaDoor
open Go.RowKit Num

theorem cmp_ge (va vb : Value) (x y : Nat) (w : World) (ha : Nums 3 .i64 10000 w va x) (hb : Nums 3 .i64 10000 w vb y) (h : y ≤ x) :
    Calls Tryd.prog 24 #[va, vb] w fun e w' => ∃ c : Int, e = .returned (.int .i64 c) ∧ 0 ≤ c ∧ ∃ nq, w' = w.drewN nq :=
  (cmpNat_any va vb x y w ha hb).mono fun e w' ⟨he, hw⟩ => ⟨_, he, by unfold cmpI; split <;> (try split) <;> omega, hw⟩
theorem cmp_lt (va vb : Value) (x y : Nat) (w : World) (ha : Nums 3 .i64 10000 w va x) (hb : Nums 3 .i64 10000 w vb y) (h : x < y) :
    Calls Tryd.prog 24 #[va, vb] w fun e w' => ∃ c : Int, e = .returned (.int .i64 c) ∧ c < 0 ∧ ∃ nq, w' = w.drewN nq :=
  (cmpNat_any va vb x y w ha hb).mono fun e w' ⟨he, hw⟩ => ⟨_, he, by unfold cmpI; split <;> (try split) <;> omega, hw⟩

set_option maxRecDepth 100000 in
set_option maxHeartbeats 1600000 in
theorem addQ_any (b1 b2 : Bool) (v1 v2 v3 v4 : Value) (n1 d1 n2 d2 : Nat) (w : World) (h1 : Nums 3 .i64 10000 w v1 n1) (h2 : Nums 3 .i64 10000 w v2 d1) (h3 : Nums 3 .i64 10000 w v3 n2) (h4 : Nums 3 .i64 10000 w v4 d2)
    (l1 : ln 10000 n1 ≤ 1099511627776) (l2 : ln 10000 d1 ≤ 1099511627776) (l3 : ln 10000 n2 ≤ 1099511627776) (l4 : ln 10000 d2 ≤ 1099511627776) (p q D : Nat) (hp : p = n1 * d2) (hq : q = n2 * d1) (hD : D = d1 * d2) (hpos : 0 < D) (lD : ln 10000 D ≤ 549755813888) (lS : ln 10000 (p + q) ≤ 549755813888)
    (sg : Bool) (num : Nat) (hs : (b1 = b2 ∧ sg = b1 ∧ num = p + q) ∨ (b1 = !b2 ∧ q ≤ p ∧ sg = b1 ∧ num = p - q) ∨ (b1 = !b2 ∧ p < q ∧ sg = b2 ∧ num = q - p)) :
    Calls Tryd.prog 11 #[.agg #[.bool b1, v1, v2], .agg #[.bool b2, v3, v4]] w fun e w' => (∃ v, e = .returned v ∧ IsQ w' v (sg && decide (0 < num)) (num / Nat.gcd num D) (D / Nat.gcd num D)) ∧ Below w.heap.size w w' := by
  obtain ⟨A1, c1, rfl, _, _, _⟩ := RowF.open h1
  obtain ⟨A2, c2, rfl, _, _, _⟩ := RowF.open h2
  obtain ⟨A3, c3, rfl, _, _, _⟩ := RowF.open h3
  obtain ⟨A4, c4, rfl, _, _, _⟩ := RowF.open h4
  have lp : ln 10000 p ≤ 549755813888 := Nat.le_trans (ln_mono _ _ _ (by omega) (Nat.le_add_right p q)) lS
  have lq : ln 10000 q ≤ 549755813888 := Nat.le_trans (ln_mono _ _ _ (by omega) (Nat.le_add_left q p)) lS
  have hA := ((Box.new w 36 #[.bool b1, .slice A1 (ln 10000 n1) c1, .slice A2 (ln 10000 d1) c2]).alloc (.cells #[.bool b2, .slice A3 (ln 10000 n2) c3, .slice A4 (ln 10000 d2) c4] 36)).alloc (.cells #[.bool false, .slice none 0 0, .slice none 0 0] 36)
  have hQ := (Box.new (w.alloc (.cells #[.bool b1, .slice A1 (ln 10000 n1) c1, .slice A2 (ln 10000 d1) c2] 36)) 36 #[.bool b2, .slice A3 (ln 10000 n2) c3, .slice A4 (ln 10000 d2) c4]).alloc (.cells #[.bool false, .slice none 0 0, .slice none 0 0] 36)
  have hR := Box.new ((w.alloc (.cells #[.bool b1, .slice A1 (ln 10000 n1) c1, .slice A2 (ln 10000 d1) c2] 36)).alloc (.cells #[.bool b2, .slice A3 (ln 10000 n2) c3, .slice A4 (ln 10000 d2) c4] 36)) 36 #[.bool false, .slice none 0 0, .slice none 0 0]
  have hB := (((Below.refl w.heap.size w).alloc (Nat.le_refl _) (.cells #[.bool b1, .slice A1 (ln 10000 n1) c1, .slice A2 (ln 10000 d1) c2] 36)).alloc (by simp) (.cells #[.bool b2, .slice A3 (ln 10000 n2) c3, .slice A4 (ln 10000 d2) c4] 36)).alloc (by simp; omega) (.cells #[.bool false, .slice none 0 0, .slice none 0 0] 36)
  have e0 : ∀ (W : World) (o : Obj), (W.alloc o).heap.size = W.heap.size + 1 := fun W o => by simp
  rw [e0] at hQ
  rw [e0, e0] at hR
  clear e0
  replace h1 := h1.below hB (Nat.le_refl _)
  replace h2 := h2.below hB (Nat.le_refl _)
  replace h3 := h3.below hB (Nat.le_refl _)
  replace h4 := h4.below hB (Nat.le_refl _)
  have HB := Lib.hid hB
  have H1 := Lib.hid h1
  have H2 := Lib.hid h2
  have H3 := Lib.hid h3
  have H4 := Lib.hid h4
  have Hs := Lib.hid hs
  have HR := Lib.hid hR
  have Hp := Lib.hid hp
  have Hq := Lib.hid hq
  have HD := Lib.hid hD
  clear h1 h2 h3 h4 hs hB hR hp hq hD
  go_enter Tryd.func11, Tryd.ntmps11
  go_upto_region 1 with fail
  obtain ⟨W, hW⟩ : ∃ W, W = ((w.alloc (.cells #[.bool b1, .slice A1 (ln 10000 n1) c1, .slice A2 (ln 10000 d1) c2] 36)).alloc (.cells #[.bool b2, .slice A3 (ln 10000 n2) c3, .slice A4 (ln 10000 d2) c4] 36)).alloc (.cells #[.bool false, .slice none 0 0, .slice none 0 0] 36) := ⟨_, rfl⟩
  rw [← hW] at HB H1 H2 H3 H4 HR hA hQ ⊢
  clear hW
  go_cut [5, 6] (fun s5 s6 wx => Nums 3 .i64 10000 wx s5 p ∧ Nums 3 .i64 10000 wx s6 q ∧ Below W.heap.size W wx)
  case first =>
    go_region_held3 (fun w' => w'.cell? ⟨w.heap.size, 0, none⟩ = some (.bool b1) ∧ w'.cell? ⟨w.heap.size, 1, none⟩ = some (.slice A1 (ln 10000 n1) c1) ∧ w'.cell? ⟨w.heap.size, 2, none⟩ = some (.slice A2 (ln 10000 d1) c2) ∧ w'.cell? ⟨w.heap.size + 1, 0, none⟩ = some (.bool b2) ∧ w'.cell? ⟨w.heap.size + 1, 1, none⟩ = some (.slice A3 (ln 10000 n2) c3) ∧ w'.cell? ⟨w.heap.size + 1, 2, none⟩ = some (.slice A4 (ln 10000 d2) c4) ∧ Below W.heap.size W w')
      ((refine hold6 hA hQ ?_; first | exact (Below.refl _ W).drew | (refine below_step (hold6_below (by assumption)) ?_; assumption)))
      (first
        | (go_at_call_of 22 (Value.slice A1 (ln 10000 n1) c1); refine (mulNat_any _ _ n1 d2 _ (H1.out.below (hold6_below (by assumption)) (Nat.le_refl _)) (H4.out.below (hold6_below (by assumption)) (Nat.le_refl _)) l1 l4).mono ?_; rintro e w1 ⟨⟨u1, rfl, hv1⟩, hb1⟩; have Hv1 := Lib.hid hv1; clear hv1)
        | (go_at_call_of 22 (Value.slice A3 (ln 10000 n2) c3); refine (mulNat_any _ _ n2 d1 _ (H3.out.below (hold6_below (by assumption)) (Nat.le_refl _)) (H2.out.below (hold6_below (by assumption)) (Nat.le_refl _)) l3 l2).mono ?_; rintro e w2 ⟨⟨u2, rfl, hv2⟩, hb2⟩; have Hv2 := Lib.hid hv2; clear hv2))
    all_goals go_wp2_with fail
    all_goals go_meet
    all_goals rw [Hp.out, Hq.out]
    all_goals first
      | exact ⟨Hv1.out.below hb2 (Nat.le_refl _), Hv2.out, hold6_below (by assumption)⟩
      | exact ⟨Hv1.out, Hv2.out.below hb1 (Nat.le_refl _), hold6_below (by assumption)⟩
  obtain ⟨hv5, hv6, hb⟩ := hcut
  have hA1 := hA.below hb hA.lt
  have hQ1 := hQ.below hb hQ.lt
  have HR1 := Lib.hid (HR.out.below hb HR.out.lt)
  have HB1 := Lib.hid (HB.out.trans (hb.mono HB.out.size))
  have H2' := Lib.hid (H2.out.below hb (Nat.le_refl _))
  have H4' := Lib.hid (H4.out.below hb (Nat.le_refl _))
  have H5 := Lib.hid hv5
  have H6 := Lib.hid hv6
  clear hb hv5 hv6 H1 H2 H3 H4 HB HR hA hQ Hp Hq
  go_upto_region 2 with fail
  go_cut [7] (fun s7 wx => ∃ (G : Nat) (vd : Value), s7 = .pointer (some ⟨G, 0, none⟩) ∧ wc.heap.size ≤ G ∧ Below wc.heap.size wc wx ∧ Box wx G 36 #[.bool b1, .slice none 0 0, vd] ∧ Nums 3 .i64 10000 wx vd D)
  case first =>
    go_region_held3 (fun w' => w'.cell? ⟨w.heap.size, 0, none⟩ = some (.bool b1) ∧ w'.cell? ⟨w.heap.size, 1, none⟩ = some (.slice A1 (ln 10000 n1) c1) ∧ w'.cell? ⟨w.heap.size, 2, none⟩ = some (.slice A2 (ln 10000 d1) c2) ∧ w'.cell? ⟨w.heap.size + 1, 0, none⟩ = some (.bool b2) ∧ w'.cell? ⟨w.heap.size + 1, 1, none⟩ = some (.slice A3 (ln 10000 n2) c3) ∧ w'.cell? ⟨w.heap.size + 1, 2, none⟩ = some (.slice A4 (ln 10000 d2) c4) ∧ Below wc.heap.size wc w')
      ((refine hold6 hA1 hQ1 ?_; first | exact (Below.refl _ wc).drew | (refine below_step (hold6_below (by assumption)) ?_; assumption) | (refine below_new (hold6_below (by assumption)) _) | (refine below_realloc _ (hold6_below (by assumption)) ?_; have h1 := hb1.size; simp at h1; omega) | (refine below_put (hold6_below (by assumption)) ?_ _ _ _; (try (have h1 := hb1.size; simp at h1)); omega)))
      (first | (go_at_call_of 22 (Value.slice A2 (ln 10000 d1) c2); refine (mulNat_any _ _ d1 d2 _ (H2'.out.below (hold6_below (by assumption)) (Nat.le_refl _)) (H4'.out.below (hold6_below (by assumption)) (Nat.le_refl _)) l2 l4).mono ?_; rintro e w1 ⟨⟨vd, rfl, hvd⟩, hb1⟩; (first | (have hz1 := built_drew hb1) | (have hz1 := new_kept hb1) | skip); (try obtain ⟨z10, z11, z12, y10, y11, y12⟩ := hz1.three); rw [← HD.out] at hvd; obtain ⟨A5, c5, rfl, _, _, _⟩ := RowF.open hvd))
    all_goals go_wp2_with fail
    all_goals go_meet
    all_goals refine ⟨_, .slice A5 (ln 10000 D) c5, rfl, ?_, hold6_below (by assumption), ?_, ?_⟩
    all_goals first
      | exact Nat.le_refl _
      | exact hb1.size
      | exact Box.new _ _ _
      | exact (((hz1.set 0 _).set 1 _).set 2 _)
      | exact hvd.below ((Below.refl _ _).alloc (Nat.le_refl _) _) (Nat.le_refl _)
      | exact Nums.put3 hvd hz1 (by decide) _ _ _
  obtain ⟨G, vd, rfl, hG, hb, hbG, hvd⟩ := hcut
  obtain ⟨A5, c5, rfl, _, _, _⟩ := RowF.open hvd
  have hA2 := hA1.below hb hA1.lt
  have hQ2 := hQ1.below hb hQ1.lt
  have HR2 := Lib.hid (HR1.out.below hb HR1.out.lt)
  have HB2 := Lib.hid (HB1.out.trans (hb.mono HB1.out.size))
  have H5' := Lib.hid (H5.out.below hb (Nat.le_refl _))
  have H6' := Lib.hid (H6.out.below hb (Nat.le_refl _))
  have HV := Lib.hid hvd
  have HG := Lib.hid hbG
  have hlR := HR1.out.lt
  have hGR : w.heap.size + 1 + 1 ≠ G := by omega
  have hGs : w.heap.size ≤ G := by omega
  have hGA : G ≠ w.heap.size := by omega
  have hGQ : G ≠ w.heap.size + 1 := by omega
  clear hb hvd hbG H2' H4' H5 H6 HB1 HR1 hA1 hQ1 HD hG hlR
  obtain ⟨r0, r1, r2, _, _, _⟩ := hA2.three
  obtain ⟨s0, s1, s2, _, _, _⟩ := hQ2.three
  have HA := Lib.hid hA2
  have HQ := Lib.hid hQ2
  clear hA2 hQ2
  rcases Hs.out with ⟨rfl, rfl, rfl⟩ | ⟨rfl, hqp, rfl, rfl⟩ | ⟨rfl, hqp, rfl, rfl⟩
  · clear Hs
    have hee : (sg == sg) = true := by cases sg <;> rfl
    go_wp2_with (first
      | (go_at_call 23; refine (addNat_any _ _ p q _ H5'.out H6'.out (by omega) (by omega)).mono ?_; rintro e w3 ⟨⟨vn, rfl, hvn⟩, hb3⟩; obtain ⟨A6, c6, rfl, _, _, _⟩ := RowF.open hvn; have hG3 := HG.out.below hb3 HG.out.lt; obtain ⟨g0, g1, g2, f0, f1, f2⟩ := hG3.three; have Hvn := Lib.hid (hvn.setCell (p := ⟨G, 1, none⟩) (hvn.apart hG3 (by decide)) (.slice A6 (ln 10000 (p + q)) c6)); have Hvd := Lib.hid ((HV.out.below hb3 (Nat.le_refl _)).setCell (p := ⟨G, 1, none⟩) ((HV.out.below hb3 (Nat.le_refl _)).apart hG3 (by decide)) (.slice A6 (ln 10000 (p + q)) c6)); have HR4 := Lib.hid ((HR2.out.below hb3 HR2.out.lt).other hGR.symm 1 (.slice A6 (ln 10000 (p + q)) c6)); have HB4 := Lib.hid ((HB2.out.trans (hb3.mono HB2.out.size)).setCell (p := ⟨G, 1, none⟩) hGs (.slice A6 (ln 10000 (p + q)) c6)); obtain ⟨k0, k1, k2, _, _, _⟩ := (hG3.set 1 (.slice A6 (ln 10000 (p + q)) c6)).three; clear hb3 hvn hG3)
      | (go_at_call 20; refine (lowest_any sg _ _ (p + q) D _ Hvn.out Hvd.out hpos lS lD).mono ?_; rintro e w4 ⟨⟨v, rfl, vN, vD, rfl, hN, hDD⟩, hb4⟩; obtain ⟨A7, c7, rfl, _, _, _⟩ := RowF.open hN; obtain ⟨A8, c8, rfl, _, _, _⟩ := RowF.open hDD; have hR5 := HR4.out.below hb4 HR4.out.lt; clear k0 k1 k2; obtain ⟨z0, z1, z2, y0, y1, y2⟩ := hR5.three; have HR5 := Lib.hid hR5; have HN := Lib.hid hN; have HDD := Lib.hid hDD; have HB5 := Lib.hid (HB4.out.trans (hb4.mono HB4.out.size)); clear hb4 hN hDD hR5))
    obtain ⟨m0, m1, m2⟩ := HR5.out.put3 (.bool (sg && decide (0 < (p + q)))) (.slice A7 (ln 10000 ((p + q) / Nat.gcd ((p + q)) D)) c7) (.slice A8 (ln 10000 (D / Nat.gcd ((p + q)) D)) c8)
    refine bodyPost_ret (v := .agg #[.bool (sg && decide (0 < (p + q))), .slice A7 (ln 10000 ((p + q) / Nat.gcd ((p + q)) D)) c7, .slice A8 (ln 10000 (D / Nat.gcd ((p + q)) D)) c8]) (by simp [results, Tryd.results11, go_sem, m0, m1, m2]; done) rfl ?_
    exact ⟨⟨_, rfl, _, _, rfl, Nums.put3 HN.out HR5.out (by decide) _ _ _, Nums.put3 HDD.out HR5.out (by decide) _ _ _⟩, below_put3 HB5.out (by omega) _ _ _⟩
  · clear Hs
    have hee : ((!b2) == b2) = false := by cases b2 <;> rfl
    have lN : ln 10000 (p - q) ≤ 549755813888 := Nat.le_trans (ln_mono _ _ _ (by omega) (Nat.sub_le p q)) lp
    go_wp2_with (first
      | (go_at_call 24; refine (cmp_ge _ _ p q _ H5'.out H6'.out hqp).mono ?_; rintro e w3 ⟨c, rfl, hc, nq, rfl⟩; have hbd := below_drewN nq (Below.refl wc.heap.size wc))
      | (go_at_call 25; refine (subNat_any _ _ p q _ (H5'.out.below hbd (Nat.le_refl _)) (H6'.out.below hbd (Nat.le_refl _)) (by omega) hqp).mono ?_; rintro e w3 ⟨⟨vn, rfl, hvn⟩, hb3⟩; replace hb3 := hbd.trans (hb3.mono hbd.size); obtain ⟨A6, c6, rfl, _, _, _⟩ := RowF.open hvn; have hG3 := HG.out.below hb3 HG.out.lt; obtain ⟨g0, g1, g2, f0, f1, f2⟩ := hG3.three; have Hvn := Lib.hid (hvn.setCell (p := ⟨G, 1, none⟩) (hvn.apart hG3 (by decide)) (.slice A6 (ln 10000 (p - q)) c6)); have Hvd := Lib.hid ((HV.out.below hb3 (Nat.le_refl _)).setCell (p := ⟨G, 1, none⟩) ((HV.out.below hb3 (Nat.le_refl _)).apart hG3 (by decide)) (.slice A6 (ln 10000 (p - q)) c6)); have HR4 := Lib.hid ((HR2.out.below hb3 HR2.out.lt).other hGR.symm 1 (.slice A6 (ln 10000 (p - q)) c6)); have HB4 := Lib.hid ((HB2.out.trans (hb3.mono HB2.out.size)).setCell (p := ⟨G, 1, none⟩) hGs (.slice A6 (ln 10000 (p - q)) c6)); obtain ⟨k0, k1, k2, _, _, _⟩ := (hG3.set 1 (.slice A6 (ln 10000 (p - q)) c6)).three; clear hb3 hvn hG3)
      | (go_at_call 20; refine (lowest_any (!b2) _ _ (p - q) D _ Hvn.out Hvd.out hpos lN lD).mono ?_; rintro e w4 ⟨⟨v, rfl, vN, vD, rfl, hN, hDD⟩, hb4⟩; obtain ⟨A7, c7, rfl, _, _, _⟩ := RowF.open hN; obtain ⟨A8, c8, rfl, _, _, _⟩ := RowF.open hDD; have hR5 := HR4.out.below hb4 HR4.out.lt; clear k0 k1 k2; obtain ⟨z0, z1, z2, y0, y1, y2⟩ := hR5.three; have HR5 := Lib.hid hR5; have HN := Lib.hid hN; have HDD := Lib.hid hDD; have HB5 := Lib.hid (HB4.out.trans (hb4.mono HB4.out.size)); clear hb4 hN hDD hR5))
    obtain ⟨m0, m1, m2⟩ := HR5.out.put3 (.bool ((!b2) && decide (0 < (p - q)))) (.slice A7 (ln 10000 ((p - q) / Nat.gcd ((p - q)) D)) c7) (.slice A8 (ln 10000 (D / Nat.gcd ((p - q)) D)) c8)
    refine bodyPost_ret (v := .agg #[.bool ((!b2) && decide (0 < (p - q))), .slice A7 (ln 10000 ((p - q) / Nat.gcd ((p - q)) D)) c7, .slice A8 (ln 10000 (D / Nat.gcd ((p - q)) D)) c8]) (by simp [results, Tryd.results11, go_sem, m0, m1, m2]; done) rfl ?_
    exact ⟨⟨_, rfl, _, _, rfl, Nums.put3 HN.out HR5.out (by decide) _ _ _, Nums.put3 HDD.out HR5.out (by decide) _ _ _⟩, below_put3 HB5.out (by omega) _ _ _⟩
  · clear Hs
    have hee : ((!sg) == sg) = false := by cases sg <;> rfl
    have lN : ln 10000 (q - p) ≤ 549755813888 := Nat.le_trans (ln_mono _ _ _ (by omega) (Nat.sub_le q p)) lq
    go_wp2_with (first
      | (go_at_call 24; refine (cmp_lt _ _ p q _ H5'.out H6'.out hqp).mono ?_; rintro e w3 ⟨c, rfl, hc, nq, rfl⟩; have hbd := below_drewN nq (Below.refl wc.heap.size wc))
      | (go_at_call 25; refine (subNat_any _ _ q p _ (H6'.out.below hbd (Nat.le_refl _)) (H5'.out.below hbd (Nat.le_refl _)) (by omega) (Nat.le_of_lt hqp)).mono ?_; rintro e w3 ⟨⟨vn, rfl, hvn⟩, hb3⟩; replace hb3 := hbd.trans (hb3.mono hbd.size); obtain ⟨A6, c6, rfl, _, _, _⟩ := RowF.open hvn; have hG3 := HG.out.below hb3 HG.out.lt; obtain ⟨g0, g1, g2, f0, f1, f2⟩ := hG3.three; have hG4 := hG3.set 1 (.slice A6 (ln 10000 (q - p)) c6); obtain ⟨i0, i1, i2, j0, j1, j2⟩ := hG4.three; have hvn4 := hvn.setCell (p := ⟨G, 1, none⟩) (hvn.apart hG3 (by decide)) (.slice A6 (ln 10000 (q - p)) c6); have hvd4 := (HV.out.below hb3 (Nat.le_refl _)).setCell (p := ⟨G, 1, none⟩) ((HV.out.below hb3 (Nat.le_refl _)).apart hG3 (by decide)) (.slice A6 (ln 10000 (q - p)) c6); have Hvn := Lib.hid (hvn4.setCell (p := ⟨G, 0, none⟩) (hvn4.apart hG4 (by decide)) (.bool sg)); have Hvd := Lib.hid (hvd4.setCell (p := ⟨G, 0, none⟩) (hvd4.apart hG4 (by decide)) (.bool sg)); have HR4 := Lib.hid (((HR2.out.below hb3 HR2.out.lt).other hGR.symm 1 (.slice A6 (ln 10000 (q - p)) c6)).other hGR.symm 0 (.bool sg)); have HB4 := Lib.hid (((HB2.out.trans (hb3.mono HB2.out.size)).setCell (p := ⟨G, 1, none⟩) hGs (.slice A6 (ln 10000 (q - p)) c6)).setCell (p := ⟨G, 0, none⟩) hGs (.bool sg)); obtain ⟨k0, k1, k2, _, _, _⟩ := (hG4.set 0 (.bool sg)).three; have hQ4 := ((HQ.out.below hb3 HQ.out.lt).other hGQ 1 (.slice A6 (ln 10000 (q - p)) c6)); obtain ⟨o0, o1, o2, _, _, _⟩ := hQ4.three; clear hb3 hvn hG3 hG4 hvn4 hvd4 hQ4)
      | (go_at_call 20; refine (lowest_any sg _ _ (q - p) D _ Hvn.out Hvd.out hpos lN lD).mono ?_; rintro e w4 ⟨⟨v, rfl, vN, vD, rfl, hN, hDD⟩, hb4⟩; obtain ⟨A7, c7, rfl, _, _, _⟩ := RowF.open hN; obtain ⟨A8, c8, rfl, _, _, _⟩ := RowF.open hDD; have hR5 := HR4.out.below hb4 HR4.out.lt; clear k0 k1 k2; obtain ⟨z0, z1, z2, y0, y1, y2⟩ := hR5.three; have HR5 := Lib.hid hR5; have HN := Lib.hid hN; have HDD := Lib.hid hDD; have HB5 := Lib.hid (HB4.out.trans (hb4.mono HB4.out.size)); clear hb4 hN hDD hR5))
    obtain ⟨m0, m1, m2⟩ := HR5.out.put3 (.bool (sg && decide (0 < (q - p)))) (.slice A7 (ln 10000 ((q - p) / Nat.gcd ((q - p)) D)) c7) (.slice A8 (ln 10000 (D / Nat.gcd ((q - p)) D)) c8)
    refine bodyPost_ret (v := .agg #[.bool (sg && decide (0 < (q - p))), .slice A7 (ln 10000 ((q - p) / Nat.gcd ((q - p)) D)) c7, .slice A8 (ln 10000 (D / Nat.gcd ((q - p)) D)) c8]) (by simp [results, Tryd.results11, go_sem, m0, m1, m2]; done) rfl ?_
    exact ⟨⟨_, rfl, _, _, rfl, Nums.put3 HN.out HR5.out (by decide) _ _ _, Nums.put3 HDD.out HR5.out (by decide) _ _ _⟩, below_put3 HB5.out (by omega) _ _ _⟩

end Go.Proofs.YtbcckgofoknmbaaDoor
/-
  The model's comparison of two fractions.
-/
namespace Go.Proofs.YtbcckgofoknmbaaDoor
open Go.RowKit Num

/-- The sign of a difference, out of the sum with the negative. -/
theorem sign_of (b1 b2 : Bool) (n1 d1 n2 d2 : Nat) (e1 : n1 = 0 → b1 = false) (e2 : n2 = 0 → b2 = false) (hd1 : 0 < d1) (hd2 : 0 < d2) : ∃ (sg : Bool) (num : Nat),
    ((b1 = (!b2 && decide (0 < n2)) ∧ sg = b1 ∧ num = n1 * d2 + n2 * d1) ∨ (b1 = (!(!b2 && decide (0 < n2))) ∧ n2 * d1 ≤ n1 * d2 ∧ sg = b1 ∧ num = n1 * d2 - n2 * d1) ∨ (b1 = (!(!b2 && decide (0 < n2))) ∧ n1 * d2 < n2 * d1 ∧ sg = (!b2 && decide (0 < n2)) ∧ num = n2 * d1 - n1 * d2)) ∧
    cmpR b1 n1 d1 b2 n2 d2 = (if num = 0 then 0 else if (sg && decide (0 < num)) = true then -1 else 1) := by
  have p1 : n1 ≠ 0 → 0 < n1 * d2 := fun h => Nat.mul_pos (by omega) hd2
  have p2 : n2 ≠ 0 → 0 < n2 * d1 := fun h => Nat.mul_pos (by omega) hd1
  have z1 : n1 = 0 → n1 * d2 = 0 := fun h => by rw [h]; simp
  have z2 : n2 = 0 → n2 * d1 = 0 := fun h => by rw [h]; simp
  unfold cmpR cmpI
  generalize n1 * d2 = p at *
  generalize n2 * d1 = q at *
  by_cases h2 : n2 = 0
  · obtain rfl := e2 h2
    have hq := z2 h2
    subst hq
    cases b1 with
    | false =>
      refine ⟨false, p, Or.inl ⟨by simp [h2], rfl, by omega⟩, ?_⟩
      by_cases hp : p = 0 <;> simp [hp] <;> omega
    | true =>
      have : n1 ≠ 0 := fun h => by have := e1 h; cases this
      have := p1 this
      refine ⟨true, p, Or.inr (Or.inl ⟨by simp [h2], by omega, rfl, by omega⟩), ?_⟩
      have h3 : p ≠ 0 := by omega
      simp [h3, this]
  · have hq := p2 h2
    have hn2 : 0 < n2 := by omega
    cases b1 with
    | false =>
      cases b2 with
      | false =>
        by_cases h : q ≤ p
        · refine ⟨false, p - q, Or.inr (Or.inl ⟨by simp [hn2], h, rfl, rfl⟩), ?_⟩
          by_cases h3 : p = q
          · subst h3; simp
          · have h4 : p - q ≠ 0 := by omega
            have h5 : ¬ p < q := by omega
            have h6 : q < p := by omega
            simp [h4, h5, h6]
        · have h' : p < q := by omega
          refine ⟨true, q - p, Or.inr (Or.inr ⟨by simp [hn2], h', by simp [hn2], rfl⟩), ?_⟩
          have h4 : q - p ≠ 0 := by omega
          have h5 : 0 < q - p := by omega
          simp [h4, h5, h']
      | true =>
        refine ⟨false, p + q, Or.inl ⟨by simp, rfl, rfl⟩, ?_⟩
        have h4 : p + q ≠ 0 := by omega
        rw [if_neg h4]
        simp
    | true =>
      have : n1 ≠ 0 := fun h => by have := e1 h; cases this
      have hp := p1 this
      cases b2 with
      | false =>
        refine ⟨true, p + q, Or.inl ⟨by simp [hn2], rfl, rfl⟩, ?_⟩
        have h4 : p + q ≠ 0 := by omega
        have h5 : 0 < p + q := by omega
        rw [if_neg h4]
        simp [h5]
      | true =>
        by_cases h : q ≤ p
        · refine ⟨true, p - q, Or.inr (Or.inl ⟨by simp, h, rfl, rfl⟩), ?_⟩
          by_cases h3 : p = q
          · subst h3; simp
          · have h4 : p - q ≠ 0 := by omega
            have h5 : ¬ p < q := by omega
            have h6 : q < p := by omega
            have h7 : 0 < p - q := by omega
            rw [if_neg h4]
            simp [h5, h6, h7]
        · have h' : p < q := by omega
          refine ⟨false, q - p, Or.inr (Or.inr ⟨by simp, h', by simp, rfl⟩), ?_⟩
          have h4 : q - p ≠ 0 := by omega
          rw [if_neg h4]
          simp [h']

theorem cmp_room {n1 d1 n2 d2 : Nat} (l1 : ln 10000 n1 ≤ 137438953472) (l2 : ln 10000 d1 ≤ 137438953472) (l3 : ln 10000 n2 ≤ 137438953472) (l4 : ln 10000 d2 ≤ 137438953472) : ln 10000 (d1 * d2) ≤ 549755813888 ∧ ln 10000 (n1 * d2 + n2 * d1) ≤ 549755813888 := by
  have h1 := ln_mul 10000 n1 d2 (by omega)
  have h2 := ln_mul 10000 n2 d1 (by omega)
  have h3 := ln_mul 10000 d1 d2 (by omega)
  have h4 := ln_add 10000 (n1 * d2) (n2 * d1) (by omega)
  exact ⟨by omega, by omega⟩

end Go.Proofs.YtbcckgofoknmbaaDoor
/-
  The model's product and quotient of two fractions.
-/
namespace Go.Proofs.YtbcckgofoknmbaaDoor
open Go.RowKit Num

theorem hold6B {W w' : World} {B G H Q : Nat} {t u q : TypeId} {a b c d e f : Value} (h : Box W G t #[a, b, c]) (k : Box W H u #[d, e, f]) (hG : G < B) (hH : H < B) (hb : Below B W w') (hq : Boxy w' Q q) :
    w'.cell? ⟨G, 0, none⟩ = some a ∧ w'.cell? ⟨G, 1, none⟩ = some b ∧ w'.cell? ⟨G, 2, none⟩ = some c ∧ w'.cell? ⟨H, 0, none⟩ = some d ∧ w'.cell? ⟨H, 1, none⟩ = some e ∧ w'.cell? ⟨H, 2, none⟩ = some f ∧ Below B W w' ∧ Boxy w' Q q := by
  obtain ⟨h1, h2, h3, _⟩ := (h.below hb hG).three
  obtain ⟨k1, k2, k3, _⟩ := (k.below hb hH).three
  exact ⟨h1, h2, h3, k1, k2, k3, hb, hq⟩
theorem hold6B_below {W w' : World} {B Q : Nat} {u : TypeId} {p q r s t v : Prop} (h : p ∧ q ∧ r ∧ s ∧ t ∧ v ∧ Below B W w' ∧ Boxy w' Q u) : Below B W w' := h.2.2.2.2.2.2.1
theorem hold6B_boxy {W w' : World} {B Q : Nat} {u : TypeId} {p q r s t v : Prop} (h : p ∧ q ∧ r ∧ s ∧ t ∧ v ∧ Below B W w' ∧ Boxy w' Q u) : Boxy w' Q u := h.2.2.2.2.2.2.2
theorem newB {W w1 : World} {B : Nat} (hB : B ≤ W.heap.size) (h : Below B W w1) (o : Obj) : Below B W (w1.alloc o) := h.alloc (Nat.le_trans hB h.size) o
theorem under {w W w' : World} (h : Below w.heap.size w W) (k : Below (w.heap.size + 1 + 1) W w') : Below w.heap.size w w' := h.trans (k.mono (by omega))
theorem boxy_alloc {w : World} {G : Nat} {t : TypeId} (h : Boxy w G t) (o : Obj) : Boxy (w.alloc o) G t := by
  obtain ⟨a, b, c, h⟩ := h
  exact ⟨a, b, c, h.alloc o⟩

end Go.Proofs.YtbcckgofoknmbaaDoor
