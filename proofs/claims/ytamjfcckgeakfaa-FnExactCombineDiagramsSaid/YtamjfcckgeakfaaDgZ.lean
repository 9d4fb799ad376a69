/-
  Decision diagrams, the program: whether a diagram is valid.
-/
import Derived.Test.YtamjfcckgeakfaaDgY
namespace Go.Proofs.Ytamjfcckgeakfaa
open Go.RowKit Num

/-- The references as left. -/
abbrev lft (L ro : Int) (n : Nat) (f : Nat → Int) : List Nat := Dg.vs (ndl n f) (own (ndl n f)) L.toNat ro.toNat []

/-- What the program asks of a diagram. -/
def VdP (L ro : Int) (n : Nat) (f : Nat → Int) : Prop := (0 ≤ L ∧ L ≤ 10) ∧ (ShpI L n f ∧ ∀ k, k < n → f (k * 3 + 1) ≠ f (k * 3 + 2)) ∧ (0 ≤ ro ∧ ro < n + 2) ∧ (lft L ro n f).length = n ∧ ∀ i, i + 1 < (lft L ro n f).length → (((lft L ro n f).getD i 0 : Nat) : Int) ≤ (((lft L ro n f).getD (i + 1) 0 : Nat) : Int)

theorem bool_iff_no {r : Bool} {p : Prop} (h : r = true ↔ p) (hr : r = false) : ¬ p := fun hp => by rw [h.2 hp] at hr; cases hr

set_option maxRecDepth 100000 in
set_option maxHeartbeats 6400000 in
theorem implVd_any (lo : Nat) (L ro : Int) (n c : Nat) (A0 : Option Addr) (f : Nat → Int) (w : World) (hn : n ≤ 1048576) (h0 : IntsAt lo w A0 (n * 3) f) :
    Calls Try.prog 45 #[dgV L A0 n c ro] w (Yd (VdP L ro n f) w) := by
  have hP := Box.new w 28 #[.int .i64 L, .slice A0 n c, .int .i64 ro]
  have hB := (Below.refl w.heap.size w).alloc (Nat.le_refl _) (.cells #[.int .i64 L, .slice A0 n c, .int .i64 ro] 28)
  obtain ⟨q0, q1, q2⟩ := hP.trio
  have H0 := Lib.hid h0; clear h0
  have C1 : Hid (∀ W, _) := Lib.hid fun W => areLevels_any L W
  have C2 : Hid (∀ W, Below w.heap.size w W → _) := Lib.hid fun W hW => leveled_any lo L ro n c A0 f W hn (H0.out.below hW (Nat.le_refl _))
  have C3 : Hid (∀ W, _) := Lib.hid fun W => isIndex_any ro ((n : Int) + 2) W
  have e2 : IntKind.i64.wrap (2 + (n : Int)) = (n : Int) + 2 := by rw [IntWalk.i64_in _ (by omega)]; omega
  cases e1 : (decide (0 ≤ L) && decide (L ≤ 10)) with
  | false =>
    rw [e1] at C1
    have HE := Lib.hid (mt (and_dec e1).2 (by simp))
    clear e1
    go_enter Try.func45, Try.ntmps45
    go_wp2_with (go_at_call 63; refine (C1.out _).mono ?_; rintro e w1 ⟨rfl, rfl⟩)
    go_ret
    exact Yd.no (fun h => HE.out h.1) hB
  | true =>
    rw [e1] at C1
    have HE1 := Lib.hid ((and_dec e1).1 rfl)
    clear e1
    cases e3 : (decide (0 ≤ ro) && decide (ro < (n : Int) + 2)) with
    | false =>
      rw [e3] at C3
      have HE := Lib.hid (mt (and_dec e3).2 (by simp))
      clear e3
      go_enter Try.func45, Try.ntmps45
      go_wp2_with (first
        | (go_at_call 63; refine (C1.out _).mono ?_; rintro e w1 ⟨rfl, rfl⟩)
        | (go_at_call 46; refine (C3.out _).mono ?_; rintro e w1 ⟨rfl, rfl⟩)
        | (go_at_call 70
           refine (C2.out _ hB).mono ?_
           rintro e w2 ⟨z, rfl, hz, hb⟩
           clear q0 q1 q2
           replace hP := hP.below hb hP.lt
           replace hB := hB.trans (hb.mono hB.size)
           obtain ⟨q0, q1, q2⟩ := hP.trio))
      all_goals go_ret
      all_goals exact Yd.no (fun h => HE.out h.2.2.1) hB
    | true =>
      rw [e3] at C3
      have HE3 := Lib.hid ((and_dec e3).1 rfl)
      clear e3
      go_enter Try.func45, Try.ntmps45
      go_upto_region 3 with (first
        | (go_at_call 63; refine (C1.out _).mono ?_; rintro e w1 ⟨rfl, rfl⟩)
        | (go_at_call 46; refine (C3.out _).mono ?_; rintro e w1 ⟨rfl, rfl⟩)
        | (go_at_call 70
           refine (C2.out _ hB).mono ?_
           rintro e w2 ⟨z, rfl, hz, hb⟩
           clear q0 q1 q2
           replace hP := hP.below hb hP.lt
           replace hB := hB.trans (hb.mono hB.size)
           obtain ⟨q0, q1, q2⟩ := hP.trio))
      all_goals first
        | (go_ret
           exact Yd.no (fun h => absurd (hz.out.2 h.2.1) (by assumption)) hB)
        | skip
      have HZ := Lib.hid (hz.out.1 (by assumption))
      have CR : Hid (∀ W, Below w.heap.size w W → _) := Lib.hid fun W hW => refs_any lo L n c ro.toNat A0 f W HZ.out.1 HE1.out.2 hn (by have := HE3.out; omega) (H0.out.below hW (Nat.le_refl _))
      rw [show ((ro.toNat : Nat) : Int) = ro by have := HE3.out; omega] at CR
      generalize hlf : Dg.vs (ndl n f) (own (ndl n f)) L.toNat ro.toNat [] = lf at CR
      obtain ⟨ln, hln⟩ : ∃ ln, ln = lf.length := ⟨_, rfl⟩
      rw [← hln] at CR
      have HLF := Lib.hid hlf
      have HLN := Lib.hid hln
      clear hlf hln hz C1 C2 C3
      go_upto_region 4 with (go_at_call 71; with_reducible refine (CR.out _ hB).mono ?_; rintro e w3 ⟨⟨g, cg, rfl, hi0⟩, hb⟩; have HI := Lib.hid hi0; clear hi0; clear q0 q1 q2; replace hP := hP.below hb hP.lt; replace hB := hB.trans (hb.mono hB.size); obtain ⟨q0, q1, q2⟩ := hP.trio; have HB := Lib.hid hB; clear hb CR hP hB)
      by_cases hlen : ln = n
      · have f1 : ((ln : Int) == (n : Int)) = true := by rw [beq_iff_eq]; omega
        have CS : Hid _ := Lib.hid (sorted_any _ g ln cg _ w3 (by omega) HI.out)
        have HL := Lib.hid hlen
        clear hlen
        go_wp2_with (go_at_call 72; refine CS.out.mono ?_; rintro e w4 ⟨z2, rfl, hz2, hb4⟩)
        go_ret
        have hiff : (∀ i, i + 1 < ln → ((lf.getD i 0 : Nat) : Int) ≤ ((lf.getD (i + 1) 0 : Nat) : Int)) ↔ VdP L ro n f := by
          have e : lft L ro n f = lf := HLF.out
          unfold VdP
          rw [e, ← HLN.out]
          exact ⟨fun h => ⟨HE1.out, HZ.out, HE3.out, HL.out, h⟩, fun h => h.2.2.2.2⟩
        exact ⟨z2, rfl, Lib.hid (hz2.out.trans hiff), HB.out.trans (hb4.mono HB.out.size)⟩
      · have f1 : ((ln : Int) == (n : Int)) = false := by rw [beq_eq_false_iff_ne]; omega
        have HL := Lib.hid hlen
        clear hlen
        go_wp2_with fail
        go_ret
        exact Yd.no (fun h => HL.out (by rw [HLN.out, ← HLF.out]; exact h.2.2.2.1)) HB.out

theorem ne_iff_red {L : Int} {n : Nat} {f : Nat → Int} (h : ShpI L n f) : (∀ k, k < n → f (k * 3 + 1) ≠ f (k * 3 + 2)) ↔ Dg.Red (ndl n f) := by
  constructor
  · intro hr k hk
    rw [ndl_len] at hk
    rw [nd_ndl f hk]
    have := hr k hk
    have h2 := h k hk
    show (f (k * 3 + 1)).toNat ≠ (f (k * 3 + 2)).toNat
    omega
  · intro hr k hk e
    have := hr k (by rw [ndl_len]; exact hk)
    rw [nd_ndl f hk] at this
    exact this (by show (f (k * 3 + 1)).toNat = (f (k * 3 + 2)).toNat; rw [e])

/-- The table of a diagram. -/
abbrev tbl (L ro : Int) (n : Nat) (f : Nat → Int) : Nat → Bool := Dg.ev (ndl n f) L.toNat L.toNat ro.toNat

/-- What the model asks of a diagram. -/
def VdS (L ro : Int) (n : Nat) (f : Nat → Int) : Prop := ((0 ≤ L ∧ L ≤ 10) ∧ n ≤ 1024 ∧ (0 ≤ ro ∧ ro < n + 2) ∧ ShpI L n f) ∧ Dg.bld (tbl L ro n f) L.toNat L.toNat 0 [] = (ro.toNat, ndl n f)

theorem sorted_forms (l : List Nat) : (∀ i, i + 1 < l.length → ((l.getD i 0 : Nat) : Int) ≤ ((l.getD (i + 1) 0 : Nat) : Int)) ↔ ∀ i (h : i + 1 < l.length), l[i] ≤ l[i + 1] := by
  constructor
  · intro h i hi
    have := h i hi
    rw [List.getD_eq_getElem?_getD, List.getD_eq_getElem?_getD, List.getElem?_eq_getElem (by omega), List.getElem?_eq_getElem hi] at this
    simp only [Option.getD_some] at this
    omega
  · intro h i hi
    have := h i hi
    rw [List.getD_eq_getElem?_getD, List.getD_eq_getElem?_getD, List.getElem?_eq_getElem (by omega), List.getElem?_eq_getElem hi]
    simp only [Option.getD_some]
    omega

/-- Both ask the same. -/
theorem vd_iff (L ro : Int) (n : Nat) (f : Nat → Int) : VdP L ro n f ↔ VdS L ro n f := by
  have key : (0 ≤ L ∧ L ≤ 10) → (0 ≤ ro ∧ ro < n + 2) → ShpI L n f → (((∀ k, k < n → f (k * 3 + 1) ≠ f (k * 3 + 2)) ∧ (lft L ro n f).length = n ∧ ∀ i, i + 1 < (lft L ro n f).length → (((lft L ro n f).getD i 0 : Nat) : Int) ≤ (((lft L ro n f).getD (i + 1) 0 : Nat) : Int)) ↔ Dg.bld (tbl L ro n f) L.toNat L.toNat 0 [] = (ro.toNat, ndl n f)) := by
    intro hL hro hs
    have := Dg.valid_iff (L := L.toNat) (N := ndl n f) (r := ro.toNat) hs.shp (by rw [ndl_len]; omega) (own (ndl n f)) (fun x a b => own_iff _ a b)
    rw [← this, ne_iff_red hs, ndl_len]
    exact and_congr_right fun _ => and_congr_right fun _ => sorted_forms _
  constructor
  · rintro ⟨h1, ⟨h2, h3⟩, h4, h5, h6⟩
    have hb := (key h1 h4 h2).1 ⟨h3, h5, h6⟩
    have hl := Dg.valid_len (L := L.toNat) (N := ndl n f) (r := ro.toNat) h2.shp (by rw [ndl_len]; omega) hb
    rw [ndl_len] at hl
    have : 2 ^ L.toNat ≤ 2 ^ 10 := Nat.pow_le_pow_right (by omega) (by omega)
    exact ⟨⟨h1, by omega, h4, h2⟩, hb⟩
  · rintro ⟨⟨h1, _, h4, h2⟩, hb⟩
    obtain ⟨h3, h5, h6⟩ := (key h1 h4 h2).2 hb
    exact ⟨h1, ⟨h2, h3⟩, h4, h5, h6⟩

end Go.Proofs.Ytamjfcckgeakfaa
