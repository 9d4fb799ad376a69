/-
  The program's fraction as a Rat, from what its decimal numerals come to.
-/
import Derived.Test.YtbcckgofoknmbaaDoorPWord
import Derived.Test.YtbcckgofoknmbaaDoorM2
namespace Go.Proofs.YtbcckgofoknmbaaDoor
open Go.RowKit Num

theorem wide_not (n : Nat) (h : 7 < ln WB n) : 120 < (decL n).length := by
  have h1 : WB ^ 7 ≤ n := by
    refine top_le WB n 7 WB_two h
  have h2 : (10 : Nat) ^ 120 ≤ WB ^ 7 := by unfold WB; decide
  have h3 := lt_ln_of_le 10 n 120 (by omega) (Nat.le_trans h2 h1)
  unfold decL
  have h4 : n ≠ 0 := fun e => by rw [e, ln_zero] at h; omega
  rw [if_neg h4, List.length_map, List.length_reverse, length_digs]
  exact h3

/-- What the numerals ask of the world: it stays while only newer blocks turn. -/
structure Stays (R : World → Prop) : Prop where
  below : ∀ W W' : World, R W → Below W.heap.size W W' → R W'

/-- The contract of the numeral of n. -/
def DecOf (R : World → Prop) (n : Nat) : Prop := ∀ (v : Value) (W : World), R W → Nums 64 .u64 WB W v n →
  Calls Tryd.prog 27 #[v] W fun e w' => e = .returned (.string (dec n)) ∧ Below W.heap.size W w'

set_option maxRecDepth 100000 in
set_option maxHeartbeats 1600000 in
/-- Too many words. -/
theorem ratF_wide (neg : Bool) (vn vd : Value) (n d : Nat) (w : World) (hn : Nums 64 .u64 WB w vn n) (hd : Nums 64 .u64 WB w vd d) (h : 7 < ln WB n ∨ 7 < ln WB d) :
    Calls Tryd.prog 15 #[.agg #[.bool neg, vn, vd]] w fun e w' => e = .returned (ratRes neg n d) ∧ Below w.heap.size w w' := by
  have hno : ratRes neg n d = noRat := by
    rw [ratRes, if_neg]
    simp only [fits, Bool.and_eq_true, decide_eq_true_eq]
    rcases h with h | h
    · have := wide_not n h; omega
    · have := wide_not d h; omega
  rw [hno]
  clear hno
  obtain ⟨An, cn, rfl, _, _, _⟩ := RowF.open hn
  obtain ⟨Ad, cd, rfl, _, _, _⟩ := RowF.open hd
  have hR0 := Box.new (w.alloc (.cells #[.bool neg, .slice An (ln WB n) cn, .slice Ad (ln WB d) cd] 43)) 25 #[.bool false, .string ⟨#[]⟩, .string ⟨#[]⟩]
  rw [show (w.alloc (.cells #[.bool neg, .slice An (ln WB n) cn, .slice Ad (ln WB d) cd] 43)).heap.size = w.heap.size + 1 from by simp] at hR0
  by_cases h1 : 7 < ln WB n
  · go_enter Tryd.func15, Tryd.ntmps15
    go_wp2_with fail
    exact bodyPost_ret (v := noRat) (by simp [results, Tryd.results15, go_sem, noRat]) rfl ⟨rfl, ((Below.refl _ w).alloc (Nat.le_refl _) _).alloc (by simp) _⟩
  · have h2 : 7 < ln WB d := by omega
    clear h
    go_enter Tryd.func15, Tryd.ntmps15
    go_wp2_with fail
    exact bodyPost_ret (v := noRat) (by simp [results, Tryd.results15, go_sem, noRat]) rfl ⟨rfl, ((Below.refl _ w).alloc (Nat.le_refl _) _).alloc (by simp) _⟩

set_option maxRecDepth 100000 in
set_option maxHeartbeats 3200000 in
theorem ratF_narrow (neg : Bool) (vn vd : Value) (n d : Nat) (R : World → Prop) (hS : Stays R) (w : World) (hw : R w) (hcn : DecOf R n) (hcd : DecOf R d) (hn : Nums 64 .u64 WB w vn n) (hd : Nums 64 .u64 WB w vd d) (h1 : ¬ 7 < ln WB n) (h2 : ¬ 7 < ln WB d) :
    Calls Tryd.prog 15 #[.agg #[.bool neg, vn, vd]] w fun e w' => e = .returned (ratRes neg n d) ∧ Below w.heap.size w w' := by
  obtain ⟨An, cn, rfl, _, _, _⟩ := RowF.open hn
  obtain ⟨Ad, cd, rfl, _, _, _⟩ := RowF.open hd
  have hF0 := (Box.new w 43 #[.bool neg, .slice An (ln WB n) cn, .slice Ad (ln WB d) cd]).alloc (.cells #[.bool false, .string ⟨#[]⟩, .string ⟨#[]⟩] 25)
  have hR0 := Box.new (w.alloc (.cells #[.bool neg, .slice An (ln WB n) cn, .slice Ad (ln WB d) cd] 43)) 25 #[.bool false, .string ⟨#[]⟩, .string ⟨#[]⟩]
  rw [show (w.alloc (.cells #[.bool neg, .slice An (ln WB n) cn, .slice Ad (ln WB d) cd] 43)).heap.size = w.heap.size + 1 from by simp] at hR0
  have hbW := ((Below.refl _ w).alloc (Nat.le_refl _) (.cells #[.bool neg, .slice An (ln WB n) cn, .slice Ad (ln WB d) cd] 43)).alloc (by simp) (.cells #[.bool false, .string ⟨#[]⟩, .string ⟨#[]⟩] 25)
  have hnW := hn.below hbW (Nat.le_refl _)
  have hdW := hd.below hbW (Nat.le_refl _)
  have hRW := hS.below _ _ hw hbW
  have Hcn := Lib.hid hcn; clear hcn
  have Hcd := Lib.hid hcd; clear hcd
  have HS := Lib.hid hS; clear hS
  clear hn hd hw
  go_enter Tryd.func15, Tryd.ntmps15
  go_wp2_with fail
  obtain ⟨G, hGe⟩ : ∃ G, G = w.heap.size := ⟨_, rfl⟩
  obtain ⟨W, hW⟩ : ∃ W, W = (w.alloc (.cells #[.bool neg, .slice An (ln WB n) cn, .slice Ad (ln WB d) cd] 43)).alloc (.cells #[.bool false, .string ⟨#[]⟩, .string ⟨#[]⟩] 25) := ⟨_, rfl⟩
  rw [← hW] at hF0 hR0 hbW hnW hdW hRW ⊢
  rw [← hGe] at hF0 hR0 hbW ⊢
  clear hW
  have HGe := Lib.hid hGe
  clear hGe
  go_cut [4, 5] (fun s4 s5 wx => s4 = .string (dec n) ∧ s5 = .string (dec d) ∧ Below W.heap.size W wx)
  case first =>
    go_region_held3 (fun w' => w'.cell? ⟨G, 0, none⟩ = some (.bool neg) ∧ w'.cell? ⟨G, 1, none⟩ = some (.slice An (ln WB n) cn) ∧ w'.cell? ⟨G, 2, none⟩ = some (.slice Ad (ln WB d) cd) ∧ Below W.heap.size W w')
      ((refine hold3 hF0 ?_; first | exact (Below.refl _ W).drew | (refine below_step (hold3_below (by assumption)) ?_; assumption)))
      (first
        | (go_at_call_of 27 (Value.slice An (ln WB n) cn); refine (Hcn.out _ _ (HS.out.below _ _ hRW (hold3_below (by assumption))) (hnW.below (hold3_below (by assumption)) (Nat.le_refl _))).mono ?_; rintro e w1 ⟨rfl, hb1⟩)
        | (go_at_call_of 27 (Value.slice Ad (ln WB d) cd); refine (Hcd.out _ _ (HS.out.below _ _ hRW (hold3_below (by assumption))) (hdW.below (hold3_below (by assumption)) (Nat.le_refl _))).mono ?_; rintro e w2 ⟨rfl, hb2⟩))
    all_goals go_wp2_with fail
    all_goals go_meet
    all_goals exact ⟨rfl, rfl, hold3_below (by assumption)⟩
  case rest =>
    obtain ⟨rfl, rfl, hbc⟩ := hcut
    have hFc := hF0.below hbc hF0.lt
    have hRc := hR0.below hbc hR0.lt
    obtain ⟨c0, c1, c2, _, _, _⟩ := hFc.three
    obtain ⟨r0, r1, r2, f0, f1, f2⟩ := hRc.three
    by_cases h3 : (dec n).size ≤ 120
    · by_cases h4 : (dec d).size ≤ 120
      · go_wp2_with fail
        obtain ⟨k0, k1, k2⟩ := hRc.put3 (.bool neg) (.string (dec n)) (.string (dec d))
        refine bodyPost_ret (v := okRat neg n d) (by simp [results, Tryd.results15, go_sem, k0, k1, k2, okRat]) rfl ?_
        exact ⟨by rw [ratRes, if_pos (by have e1 := dec_size n; have e2 := dec_size d; simp [fits]; omega)], by have hGW : G ≤ W.heap.size := (by have e := HGe.out; have e2 := hbW.size; omega); have hF := below_put3 (hbW.trans (hbc.mono hGW)) (Nat.le_succ G) (.bool neg) (.string (dec n)) (.string (dec d)); first | exact hF | (rw [← HGe.out]; exact hF)⟩
      · go_wp2_with fail
        obtain ⟨k0, k1, k2⟩ := hRc.put3 (.bool false) (.string ⟨#[]⟩) (.string ⟨#[]⟩)
        refine bodyPost_ret (v := noRat) (by simp [results, Tryd.results15, go_sem, k0, k1, k2, noRat]) rfl ?_
        exact ⟨by rw [ratRes, if_neg (by have e1 := dec_size n; have e2 := dec_size d; simp [fits]; omega)], by have hGW : G ≤ W.heap.size := (by have e := HGe.out; have e2 := hbW.size; omega); have hF := below_put3 (hbW.trans (hbc.mono hGW)) (Nat.le_succ G) (.bool false) (.string ⟨#[]⟩) (.string ⟨#[]⟩); first | exact hF | (rw [← HGe.out]; exact hF)⟩
    · go_wp2_with fail
      obtain ⟨k0, k1, k2⟩ := hRc.put3 (.bool false) (.string ⟨#[]⟩) (.string ⟨#[]⟩)
      refine bodyPost_ret (v := noRat) (by simp [results, Tryd.results15, go_sem, k0, k1, k2, noRat]) rfl ?_
      exact ⟨by rw [ratRes, if_neg (by have e1 := dec_size n; have e2 := dec_size d; simp [fits]; omega)], by have hGW : G ≤ W.heap.size := (by have e := HGe.out; have e2 := hbW.size; omega); have hF := below_put3 (hbW.trans (hbc.mono hGW)) (Nat.le_succ G) (.bool false) (.string ⟨#[]⟩) (.string ⟨#[]⟩); first | exact hF | (rw [← HGe.out]; exact hF)⟩

/-- The program's fraction as a Rat. -/
theorem ratF_any (neg : Bool) (vn vd : Value) (n d : Nat) (R : World → Prop) (hS : Stays R) (w : World) (hw : R w) (hcn : DecOf R n) (hcd : DecOf R d) (hn : Nums 64 .u64 WB w vn n) (hd : Nums 64 .u64 WB w vd d) :
    Calls Tryd.prog 15 #[.agg #[.bool neg, vn, vd]] w fun e w' => e = .returned (ratRes neg n d) ∧ Below w.heap.size w w' := by
  by_cases h : 7 < ln WB n ∨ 7 < ln WB d
  · exact ratF_wide neg vn vd n d w hn hd h
  · exact ratF_narrow neg vn vd n d R hS w hw hcn hcd hn hd (by omega) (by omega)

end Go.Proofs.YtbcckgofoknmbaaDoor
