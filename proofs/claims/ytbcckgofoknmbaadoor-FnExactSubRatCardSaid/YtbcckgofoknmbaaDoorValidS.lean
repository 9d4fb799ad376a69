/-
  The model's test whether a Rat is valid.
-/
import Derived.Test.YtbcckgofoknmbaaDoorPBlock
import Derived.Test.YtbcckgofoknmbaaDoorM2
import Derived.Test.YtbcckgofoknmbaaDoorFracOf
import Derived.Deep.RegionHeld3
import Derived.Deep.DeepCutAuto
namespace Go.Proofs.YtbcckgofoknmbaaDoor
open Go.RowKit Num

theorem list_single (s : ByteArray) (c : UInt8) : s.toList = [c] ↔ s.size = 1 ∧ byt s 0 = c.toNat := by
  rw [Lib.toList_data]
  have hs : s.size = s.data.toList.length := rfl
  constructor
  · intro h
    have h1 : s.size = 1 := by rw [hs, h]; rfl
    refine ⟨h1, ?_⟩
    rw [← byt_eq s 0 (by omega)]
    have : s.data = #[c] := by
      apply Array.ext'
      exact h
    show (s.data[0]'_).toNat = c.toNat
    simp [this]
  · rintro ⟨h1, h2⟩
    rw [hs] at h1
    match hd : s.data.toList, h1 with
    | [a], _ =>
      have : s.data = #[a] := by
        apply Array.ext'
        exact hd
      simp [byt, this] at h2
      rw [UInt8.toNat_inj.1 h2]

/-- A numeral is the text of a digit where it says that digit. -/
theorem text_is (s : ByteArray) (h : isNum s = true) (c : UInt8) (n : Nat) (hc : c.toNat = 48 + n) (hn : n < 10) : (s.toList == [c]) = decide (numOf s = n) := by
  obtain ⟨h1, h2, h3⟩ := isNum_parts h
  have h4 := h2 0 (by omega)
  rw [Bool.eq_iff_iff, beq_iff_eq, decide_eq_true_iff, list_single, numOf, Read.rd_small (dgt s) s.size n (by omega) hn (by unfold dgt; omega)]
  unfold dgt
  omega

theorem num_lt_cap {s : ByteArray} (h : isNum s = true) : ln 10000 (numOf s) ≤ 549755813888 := by
  have h1 : (10 : Nat) ^ 120 = 10000 ^ 30 := by decide
  exact Nat.le_trans (ln_le_of_lt 10000 _ 30 (by omega) (by rw [← h1]; exact numOf_lt h)) (by omega)

set_option maxRecDepth 100000 in
set_option maxHeartbeats 1600000 in
theorem validS_early (b : Bool) (x y : ByteArray) (w : World) (hx : x.size ≤ 9223372036854775807) (hy : y.size ≤ 9223372036854775807) (h : isNum x = false ∨ isNum y = false ∨ numOf y = 0) :
    Calls Tryd.prog 9 #[.agg #[.bool b, .string x, .string y]] w fun e w' => e = .returned (.bool false) ∧ Below w.heap.size w w' := by
  have hbox := Box.new w 25 #[.bool b, .string x, .string y]
  obtain ⟨r0, r1, r2, _, _, _⟩ := hbox.three
  have C1 : Hid (∀ W, _) := Lib.hid fun W => numeral_any x W hx
  have C2 : Hid (∀ W, _) := Lib.hid fun W => numeral_any y W hy
  cases hnx : isNum x with
  | false =>
    rw [hnx] at C1
    clear h
    go_enter Tryd.func9, Tryd.ntmps9
    go_wp2_with (go_at_call 17; first
      | ((with_reducible refine (C1.out _).mono ?_); rintro e w' ⟨rfl, n1, rfl⟩)
      | ((with_reducible refine (C2.out _).mono ?_); rintro e w' ⟨rfl, n2, rfl⟩))
    go_ret
    exact ⟨rfl, below_drewN _ ((Below.refl _ w).alloc (Nat.le_refl _) _)⟩
  | true =>
    rw [hnx] at C1
    cases hny : isNum y with
    | false =>
      rw [hny] at C2
      clear h
      go_enter Tryd.func9, Tryd.ntmps9
      go_wp2_with (go_at_call 17; first
        | ((with_reducible refine (C1.out _).mono ?_); rintro e w' ⟨rfl, n1, rfl⟩)
        | ((with_reducible refine (C2.out _).mono ?_); rintro e w' ⟨rfl, n2, rfl⟩))
      go_ret
      exact ⟨rfl, below_drewN _ ((Below.refl _ w).alloc (Nat.le_refl _) _)⟩
    | true =>
      rw [hny] at C2
      have h0 : numOf y = 0 := by
        rcases h with h | h | h
        · rw [hnx] at h; cases h
        · rw [hny] at h; cases h
        · exact h
      have e1 := text_is y hny 48 0 rfl (by omega)
      rw [decide_eq_true h0] at e1
      clear h h0
      go_enter Tryd.func9, Tryd.ntmps9
      go_wp2_with (go_at_call 17; first
        | ((with_reducible refine (C1.out _).mono ?_); rintro e w' ⟨rfl, n1, rfl⟩)
        | ((with_reducible refine (C2.out _).mono ?_); rintro e w' ⟨rfl, n2, rfl⟩))
      go_ret
      exact ⟨rfl, below_drewN _ ((Below.refl _ w).alloc (Nat.le_refl _) _)⟩

set_option maxRecDepth 100000 in
set_option maxHeartbeats 1600000 in
theorem validS_zero (b : Bool) (x y : ByteArray) (w : World) (hx : x.size ≤ 9223372036854775807) (hy : y.size ≤ 9223372036854775807) (nx : isNum x = true) (ny : isNum y = true) (h0 : numOf y ≠ 0) (h : numOf x = 0) (r : Bool) (hr : r = (!b && decide (numOf y = 1))) :
    Calls Tryd.prog 9 #[.agg #[.bool b, .string x, .string y]] w fun e w' => e = .returned (.bool r) ∧ Below w.heap.size w w' := by
  have hbox := Box.new w 25 #[.bool b, .string x, .string y]
  obtain ⟨r0, r1, r2, _, _, _⟩ := hbox.three
  have C1 : Hid (∀ W, _) := Lib.hid fun W => numeral_any x W hx
  have C2 : Hid (∀ W, _) := Lib.hid fun W => numeral_any y W hy
  rw [nx] at C1
  rw [ny] at C2
  have e1 := text_is y ny 48 0 rfl (by omega)
  have e2 := text_is x nx 48 0 rfl (by omega)
  have e3 := text_is y ny 49 1 rfl (by omega)
  rw [decide_eq_false h0] at e1
  rw [decide_eq_true h] at e2
  rw [← e3] at hr
  have Hr := Lib.hid hr
  clear h0 h hr e3
  cases b with
  | true =>
    go_enter Tryd.func9, Tryd.ntmps9
    go_wp2_with (go_at_call 17; first
      | ((with_reducible refine (C1.out _).mono ?_); rintro e w' ⟨rfl, n1, rfl⟩)
      | ((with_reducible refine (C2.out _).mono ?_); rintro e w' ⟨rfl, n2, rfl⟩))
    go_ret
    exact ⟨by rw [Hr.out]; rfl, below_drewN _ ((Below.refl _ w).alloc (Nat.le_refl _) _)⟩
  | false =>
    go_enter Tryd.func9, Tryd.ntmps9
    go_wp2_with (go_at_call 17; first
      | ((with_reducible refine (C1.out _).mono ?_); rintro e w' ⟨rfl, n1, rfl⟩)
      | ((with_reducible refine (C2.out _).mono ?_); rintro e w' ⟨rfl, n2, rfl⟩))
    go_ret
    exact ⟨by rw [Hr.out]; rfl, below_drewN _ ((Below.refl _ w).alloc (Nat.le_refl _) _)⟩

theorem Tryd.cells3 {w : World} {G : Nat} {t : TypeId} {a b c : Value} (h : Box w G t #[a, b, c]) {w' : World} (hb : Below w.heap.size w w') : w'.cell? ⟨G, 1, none⟩ = some b ∧ w'.cell? ⟨G, 2, none⟩ = some c ∧ Below w.heap.size w w' := by
  obtain ⟨_, h1, h2, _⟩ := (h.below hb h.lt).three
  exact ⟨h1, h2, hb⟩
theorem Tryd.cells3_below {w w' : World} {p q : Prop} (h : p ∧ q ∧ Below w.heap.size w w') : Below w.heap.size w w' := h.2.2

set_option maxRecDepth 100000 in
set_option maxHeartbeats 1600000 in
theorem validS_gen (b : Bool) (x y : ByteArray) (w : World) (hx : x.size ≤ 9223372036854775807) (hy : y.size ≤ 9223372036854775807) (nx : isNum x = true) (ny : isNum y = true) (h0 : numOf y ≠ 0) (h : numOf x ≠ 0) (r : Bool) (hr : r = true ↔ Nat.gcd (numOf x) (numOf y) = 1) :
    Calls Tryd.prog 9 #[.agg #[.bool b, .string x, .string y]] w fun e w' => e = .returned (.bool r) ∧ Below w.heap.size w w' := by
  have hbox := Box.new w 25 #[.bool b, .string x, .string y]
  obtain ⟨r0, r1, r2, _, _, _⟩ := hbox.three
  have C1 : Hid (∀ W, _) := Lib.hid fun W => numeral_any x W hx
  have C2 : Hid (∀ W, _) := Lib.hid fun W => numeral_any y W hy
  have e1 := text_is y ny 48 0 rfl (by omega)
  have e2 := text_is x nx 48 0 rfl (by omega)
  rw [decide_eq_false h0] at e1
  rw [decide_eq_false h] at e2
  have C3 : Hid (∀ W, _) := Lib.hid fun W => fromText_any x W nx
  have C4 : Hid (∀ W, _) := Lib.hid fun W => fromText_any y W ny
  have lx := num_lt_cap nx
  have ly := num_lt_cap ny
  rw [nx] at C1
  rw [ny] at C2
  have Hbox := Lib.hid hbox
  obtain ⟨gg, hgg⟩ : ∃ g, g = Nat.gcd (numOf x) (numOf y) := ⟨_, rfl⟩
  rw [← hgg] at hr
  have Hgg := Lib.hid hgg
  have Hr := Lib.hid hr
  clear h0 h nx ny hgg hr hbox
  go_enter Tryd.func9, Tryd.ntmps9
  go_upto_region 5 with (go_at_call 17; first
    | ((with_reducible refine (C1.out _).mono ?_); rintro e w' ⟨rfl, n1, rfl⟩)
    | ((with_reducible refine (C2.out _).mono ?_); rintro e w' ⟨rfl, n2, rfl⟩))
  obtain ⟨W, hW⟩ : ∃ W, W = (w.alloc (.cells #[.bool b, .string x, .string y] 25)).drewN (n1 + n2) := ⟨_, rfl⟩
  rw [← hW]
  have hbW : Box W w.heap.size 25 #[.bool b, .string x, .string y] := by rw [hW]; exact Hbox.out
  have hblW : Below w.heap.size w W := by rw [hW]; exact below_drewN _ ((Below.refl _ w).alloc (Nat.le_refl _) _)
  have HbW := Lib.hid hbW
  have HblW := Lib.hid hblW
  clear hW hblW hbW r0 r1 r2 Hbox C1 C2 e1 e2
  go_cut [3] (fun s3 wx => Nums 3 .i64 10000 wx s3 gg ∧ Below W.heap.size W wx)
  case first =>
    go_region_held3 (fun w' => w'.cell? ⟨w.heap.size, 1, none⟩ = some (.string x) ∧ w'.cell? ⟨w.heap.size, 2, none⟩ = some (.string y) ∧ Below W.heap.size W w')
      ((refine Tryd.cells3 HbW.out ?_; first | exact (Below.refl _ W).drew | (refine below_step (Tryd.cells3_below (by assumption)) ?_; assumption)))
      (first
        | (go_at_call_of 19 (Value.string x); (with_reducible refine (C3.out _).mono ?_); rintro e w1 ⟨⟨v1, rfl, hv1⟩, hb1⟩; have Hv1 := Lib.hid hv1; clear hv1)
        | (go_at_call_of 19 (Value.string y); (with_reducible refine (C4.out _).mono ?_); rintro e w2 ⟨⟨v2, rfl, hv2⟩, hb2⟩; have Hv2 := Lib.hid hv2; clear hv2)
        | (go_at_call 18; refine (gcdNat_any v1 v2 (numOf x) (numOf y) _ (by first | exact Hv1.out | exact Hv1.out.below hb2 (Nat.le_refl _)) (by first | exact Hv2.out | exact Hv2.out.below hb1 (Nat.le_refl _)) lx ly).mono ?_; rintro e w3 ⟨⟨v3, rfl, hv3⟩, hb3⟩; have Hv3 := Lib.hid hv3; clear hv3))
    all_goals go_wp2_with fail
    all_goals go_meet
    all_goals exact ⟨by rw [Hgg.out]; exact Hv3.out, Tryd.cells3_below (by assumption)⟩
  obtain ⟨hv, hb⟩ := hcut
  obtain ⟨A3, c3, rfl, _, _, _⟩ := RowF.open hv
  have hfin := HblW.out.trans (hb.mono HblW.out.size)
  have Hfin := Lib.hid hfin
  by_cases hl : ln 10000 gg = 1
  · have hgs : gg < 10000 := by have := lt_pow_ln 10000 gg (by omega); rwa [hl, Nat.pow_one] at this
    rw [hl] at hv ⊢
    obtain ⟨g3, o3, rfl, hc3⟩ := hv.get hl.symm (show 0 < 1 by omega)
    rw [dg_zero 10000 gg (by omega), Nat.mod_eq_of_lt hgs, Nat.add_zero] at hc3
    have hv2 : r = ((gg : Int) == 1) := by rw [Bool.eq_iff_iff, Hr.out, beq_iff_eq]; omega
    have Hv2 := Lib.hid hv2
    clear hl hgs hv hb hfin hv2
    go_wp2_with fail
    go_ret
    exact ⟨by rw [Hv2.out]; rfl, Hfin.out⟩
  · have hv2 : r = false := by
      cases r with
      | false => rfl
      | true => exact absurd (by rw [Hr.out.1 rfl, ln_one 10000 (by omega)]) hl
    have hl2 : ((ln 10000 gg : Int) == 1) = false := by rw [beq_eq_false_iff_ne]; omega
    clear hb hfin hv
    subst hv2
    go_wp2_with fail
    go_ret
    exact ⟨rfl, Hfin.out⟩

theorem validS_any (b : Bool) (x y : ByteArray) (w : World) (hx : x.size ≤ 9223372036854775807) (hy : y.size ≤ 9223372036854775807) :
    Calls Tryd.prog 9 #[.agg #[.bool b, .string x, .string y]] w fun e w' => e = .returned (.bool (validR b x y)) ∧ Below w.heap.size w w' := by
  unfold validR
  cases nx : isNum x with
  | false => simpa using validS_early b x y w hx hy (.inl nx)
  | true =>
    cases ny : isNum y with
    | false => simpa using validS_early b x y w hx hy (.inr (.inl ny))
    | true =>
      by_cases h0 : numOf y = 0
      · simpa [h0] using validS_early b x y w hx hy (.inr (.inr h0))
      · by_cases h : numOf x = 0
        · refine validS_zero b x y w hx hy nx ny h0 h _ ?_
          rw [h]
          cases b <;> by_cases h1 : numOf y = 1 <;> simp [h0, h1]
        · refine validS_gen b x y w hx hy nx ny h0 h _ ?_
          simp [h0, h]

end Go.Proofs.YtbcckgofoknmbaaDoor
