/-
  The law on SubRat: the program answers as the model, whatever the two Rats.
-/
import Derived.Test.YtbcckgofoknmbaaDoorImplSum
import Derived.Test.YtbcckgofoknmbaaDoorEqRat
import Derived.Test.YtbcckgofoknmbaaDoorFracLaw
namespace Go.Proofs.YtbcckgofoknmbaaDoor
open Go.RowKit Num

set_option maxRecDepth 100000 in
set_option maxHeartbeats 3200000 in
theorem lawSub_any (b1 : Bool) (x1 y1 : ByteArray) (b2 : Bool) (x2 y2 : ByteArray) (w : World) (hU : UnitB w) (hT : Tab64 w) (hP : TabP w) (hx1 : x1.size ≤ 9223372036854775807) (hy1 : y1.size ≤ 9223372036854775807) (hx2 : x2.size ≤ 9223372036854775807) (hy2 : y2.size ≤ 9223372036854775807) :
    Calls Tryd.prog 3 #[.agg #[.bool b1, .string x1, .string y1], .agg #[.bool b2, .string x2, .string y2]] w fun e w' => e = .returned (.bool true) ∧ Below w.heap.size w w' := by
  obtain ⟨rb, rx, ry, rc, hres⟩ := opRes_shape b1 x1 y1 b2 x2 y2 (addO b1 (numOf x1) (numOf y1) (!b2 && decide (0 < numOf x2)) (numOf x2) (numOf y2))
  have C0 : Hid (∀ W, _) := Lib.hid fun W => szRat_any b1 x1 y1 1048576 W (by omega) (by omega) hx1 hy1
  have C0' : Hid (∀ (n : Int) W, n ≤ 1048576 → -1 ≤ n → _) := Lib.hid fun n W h1 h2 => szRat_any b2 x2 y2 n W h1 h2 hx2 hy2
  have T1 : Hid (∀ W, _) := Lib.hid fun W => toRat_any b1 x1 y1 W
  have T2 : Hid (∀ W, _) := Lib.hid fun W => toRat_any b2 x2 y2 W
  have C2 : Hid (∀ W, _) := Lib.hid fun W => specSub_any b1 x1 y1 b2 x2 y2 W hx1 hy1 hx2 hy2
  have C3 : Hid (∀ W, Below w.heap.size w W → _) := Lib.hid fun W hW => implSub_any b1 x1 y1 b2 x2 y2 W hx1 hy1 hx2 hy2 (hU.below hW) (hT.below hW) (staysP.below _ _ hP hW)
  rw [hres] at C2 C3
  clear hres hU hT hP hx1 hy1 hx2 hy2
  have hcc : (!rc == rc) = false := by cases rc <;> rfl
  have hA := (Box.new w 23 #[.bool b1, .string x1, .string y1]).alloc (.cells #[.bool b2, .string x2, .string y2] 23)
  have hQ := Box.new (w.alloc (.cells #[.bool b1, .string x1, .string y1] 23)) 23 #[.bool b2, .string x2, .string y2]
  have hB := ((Below.refl w.heap.size w).alloc (Nat.le_refl _) (.cells #[.bool b1, .string x1, .string y1] 23)).alloc (by simp) (.cells #[.bool b2, .string x2, .string y2] 23)
  have e0 : ∀ (W : World) (o : Obj), (W.alloc o).heap.size = W.heap.size + 1 := fun W o => by simp
  rw [e0] at hQ
  clear e0
  obtain ⟨r0', r1', r2', _, _, _⟩ := hA.three
  obtain ⟨s0, s1, s2, _, _, _⟩ := hQ.three
  go_enter Tryd.func3, Tryd.ntmps3
  go_upto_region 8 with (first
    | (go_at_call_of 4 (Value.agg #[.bool b1, .string x1, .string y1]); refine (C0.out _).mono ?_; rintro e w1 ⟨⟨m, rfl, hm1, hm2, hm3⟩, hb⟩; clear hm3; replace hB := hB.trans (hb.mono hB.size); replace hA := hA.below hb hA.lt; replace hQ := hQ.below hb hQ.lt; clear hb r0' r1' r2' s0 s1 s2; obtain ⟨s0, s1, s2, _, _, _⟩ := hQ.three)
    | (go_at_call_of 4 (Value.agg #[.bool b2, .string x2, .string y2]); refine (C0'.out _ _ (by omega) (by omega)).mono ?_; rintro e w2 ⟨⟨m', rfl, hm1', hm2', hm3'⟩, hb⟩; clear hm3'; replace hB := hB.trans (hb.mono hB.size); replace hA := hA.below hb hA.lt; replace hQ := hQ.below hb hQ.lt; clear hb s0 s1 s2))
  · go_ret
    exact ⟨rfl, hB⟩
  · go_ret
    exact ⟨rfl, hB⟩
  have HB := Lib.hid hB
  clear hB
  go_cut [6, 7] (fun s6 s7 wx => ∃ G, s6 = .pointer (some ⟨G, 0, none⟩) ∧ s7 = .bool rc ∧ w2.heap.size ≤ G ∧ Box wx G 25 #[.bool rb, .string rx, .string ry] ∧ Below w2.heap.size w2 wx)
  case first =>
    go_region_held3 (fun w' => w'.cell? ⟨w.heap.size, 0, none⟩ = some (.bool b1) ∧ w'.cell? ⟨w.heap.size, 1, none⟩ = some (.string x1) ∧ w'.cell? ⟨w.heap.size, 2, none⟩ = some (.string y1) ∧ w'.cell? ⟨w.heap.size + 1, 0, none⟩ = some (.bool b2) ∧ w'.cell? ⟨w.heap.size + 1, 1, none⟩ = some (.string x2) ∧ w'.cell? ⟨w.heap.size + 1, 2, none⟩ = some (.string y2) ∧ Below w2.heap.size w2 w')
      ((refine hold6 hA hQ ?_; first | exact (Below.refl _ w2).drew | (refine below_step (hold6_below (by assumption)) ?_; assumption) | (refine below_new (hold6_below (by assumption)) _) | (refine below_put (hold6_below (by assumption)) ?_ _ _ _; have h1 := hb5.size; have h2 := hb4.size; have h3 := hb3.size; simp at h1 h2 h3; omega) | (refine below_realloc _ (hold6_below (by assumption)) ?_; have h1 := hb5.size; have h2 := hb4.size; have h3 := hb3.size; simp at h1 h2 h3; omega)))
      (first
        | (go_at_call_of 6 (Value.agg #[.bool b1, .string x1, .string y1]); refine (T1.out _).mono ?_; rintro e w3 ⟨rfl, hb3⟩; (first | (have hz := built_drew hb3) | (have hz := new_kept hb3) | skip))
        | (go_at_call_of 6 (Value.agg #[.bool b2, .string x2, .string y2]); refine (T2.out _).mono ?_; rintro e w4 ⟨rfl, hb4⟩; (first | (replace hz := hz.below hb4 hz.lt) | (have hz := built_drew hb4) | (have hz := new_kept hb4) | skip))
        | (go_at_call 5; refine (C2.out _).mono ?_; rintro e w5 ⟨rfl, hb5⟩; (first | (replace hz := hz.below hb5 hz.lt) | (have hz := built_drew hb5) | (have hz := new_kept hb5) | skip); (try obtain ⟨z0, z1, z2, f0, f1, f2⟩ := hz.three)))
    all_goals go_wp2_with fail
    all_goals go_meet
    all_goals refine ⟨_, rfl, rfl, ?_, ?_, hold6_below (by assumption)⟩
    all_goals first
      | exact Box.new _ _ _
      | exact ((hz.set 0 _).set 1 _).set 2 _
      | exact Nat.le_refl _
      | (have h1 := hb3.size; have h2 := hb4.size; have h3 := hb5.size; simp at h1 h2 h3 ⊢; omega)
  obtain ⟨G, rfl, rfl, hG, hbox, hbc⟩ := hcut
  have hA' := hA.below hbc hA.lt
  have hQ' := hQ.below hbc hQ.lt
  have HB' := Lib.hid (HB.out.trans (hbc.mono HB.out.size))
  clear hA hQ HB hbc
  go_upto_region 9 with fail
  go_cut [8, 9] (fun s8 s9 wx => ∃ G', s8 = .pointer (some ⟨G', 0, none⟩) ∧ s9 = .bool rc ∧ Box wx G' 25 #[.bool rb, .string rx, .string ry] ∧ Below wc.heap.size wc wx)
  case first =>
    go_region_held3 (fun w' => w'.cell? ⟨w.heap.size, 0, none⟩ = some (.bool b1) ∧ w'.cell? ⟨w.heap.size, 1, none⟩ = some (.string x1) ∧ w'.cell? ⟨w.heap.size, 2, none⟩ = some (.string y1) ∧ w'.cell? ⟨w.heap.size + 1, 0, none⟩ = some (.bool b2) ∧ w'.cell? ⟨w.heap.size + 1, 1, none⟩ = some (.string x2) ∧ w'.cell? ⟨w.heap.size + 1, 2, none⟩ = some (.string y2) ∧ Below wc.heap.size wc w')
      ((refine hold6 hA' hQ' ?_; first | exact (Below.refl _ wc).drew | (refine below_step (hold6_below (by assumption)) ?_; assumption) | (refine below_new (hold6_below (by assumption)) _) | (refine below_put (hold6_below (by assumption)) ?_ _ _ _; have h1 := hb5.size; have h2 := hb4.size; have h3 := hb3.size; simp at h1 h2 h3; omega) | (refine below_realloc _ (hold6_below (by assumption)) ?_; have h1 := hb5.size; have h2 := hb4.size; have h3 := hb3.size; simp at h1 h2 h3; omega)))
      (first
        | (go_at_call_of 6 (Value.agg #[.bool b1, .string x1, .string y1]); refine (T1.out _).mono ?_; rintro e w3 ⟨rfl, hb3⟩; (first | (have hz := built_drew hb3) | (have hz := new_kept hb3) | skip))
        | (go_at_call_of 6 (Value.agg #[.bool b2, .string x2, .string y2]); refine (T2.out _).mono ?_; rintro e w4 ⟨rfl, hb4⟩; (first | (replace hz := hz.below hb4 hz.lt) | (have hz := built_drew hb4) | (have hz := new_kept hb4) | skip))
        | (go_at_call 7; refine (C3.out _ (HB'.out.trans ((hold6_below (by assumption)).mono HB'.out.size))).mono ?_; rintro e w5 ⟨rfl, hb5⟩; (first | (replace hz := hz.below hb5 hz.lt) | (have hz := built_drew hb5) | (have hz := new_kept hb5) | skip); (try obtain ⟨z0, z1, z2, f0, f1, f2⟩ := hz.three)))
    all_goals go_wp2_with fail
    all_goals go_meet
    all_goals refine ⟨_, rfl, rfl, ?_, hold6_below (by assumption)⟩
    all_goals first
      | exact Box.new _ _ _
      | exact ((hz.set 0 _).set 1 _).set 2 _
  obtain ⟨G', rfl, rfl, hbox', hbc⟩ := hcut
  replace hbox := hbox.below hbc hbox.lt
  have HB2 := Lib.hid (HB'.out.trans (hbc.mono HB'.out.size))
  obtain ⟨u0, u1, u2, _, _, _⟩ := hbox.three
  obtain ⟨t0, t1, t2, _, _, _⟩ := hbox'.three
  clear hbc
  go_wp2_with (go_at_call 8; refine (eqRat_same rb rx ry _).mono ?_; rintro e w9 ⟨rfl, hb9⟩; have HB3 := Lib.hid (HB2.out.trans (hb9.mono HB2.out.size)))
  all_goals go_ret
  all_goals exact ⟨rfl, HB3.out⟩

end Go.Proofs.YtbcckgofoknmbaaDoor
