/-
  The program's ParseRat.
-/
import Derived.Test.YteefgmnjhlmbiaaDoorParseS
namespace Go.Proofs.YteefgmnjhlmbiaaDoor
open Go.RowKit Num

/-- What the program answers, from what the two cuts give. -/
def cutRes (ng fo : Bool) (N D : ByteArray) : Value :=
  if fo = true then (if (D.toList == [49]) = true then noRat else if validR ng N D = true then .tuple #[.agg #[.bool ng, .string N, .string D], .bool true] else noRat)
  else if validR ng N ⟨#[49]⟩ = true then .tuple #[.agg #[.bool ng, .string N, .string ⟨#[49]⟩], .bool true] else noRat

theorem clone_any' (s : ByteArray) (w : World) (hs : s.size ≤ 281474976710656) :
    Calls Tryd.prog 70 #[.string s] w fun e w' => e = .returned (.string s) ∧ Below w.heap.size w w' := by
  have C := Lib.hid (Tryd.stringslite_Clone s w hs)
  go_enter Tryd.func70, Tryd.ntmps70
  go_wp2_with (go_at_call 99; refine C.out.mono ?_; rintro e w1 ⟨rfl, hb⟩)
  go_ret
  exact ⟨rfl, hb⟩

theorem below_dn {w W : World} (h : Below w.heap.size w W) (k : Nat) : Below w.heap.size w (W.drewN k) := by
  exact ⟨h.os, h.tape, h.output, h.size, h.block⟩

theorem box_dn {W : World} {G : Nat} {t : TypeId} {cs : Array Value} (h : Box W G t cs) (k : Nat) : Box (W.drewN k) G t cs := h.below (B := W.heap.size) (below_dn (Below.refl _ W) k) h.lt

set_option maxRecDepth 100000 in
set_option maxHeartbeats 3200000 in
theorem implParse_cut (s : ByteArray) (w : World) (m : Int) (hs : s.size ≤ 1048576) (hU : UnitB w) (hT : Tab64 w) (hm : w.cell? ⟨2, 0, none⟩ = some (.int .i64 m)) (hmb : 2 < w.heap.size)
    (U N D : ByteArray) (ng fo : Bool) (hu : U = ⟨(Lib.trimPrefix s.data.toList [45]).toArray⟩) (hng : ng = Lib.hasPrefix s.data.toList [45])
    (hN : N = ⟨(Lib.cut U.data.toList [47]).1.toArray⟩) (hD : D = ⟨(Lib.cut U.data.toList [47]).2.1.toArray⟩) (hfo : fo = (Lib.cut U.data.toList [47]).2.2) (sU : U.size ≤ 1048576) (sN : N.size ≤ 1048576) (sD : D.size ≤ 1048576) :
    Calls Tryd.prog 36 #[.string s] w fun e w' => e = .returned (cutRes ng fo N D) ∧ Below w.heap.size w w' := by
  have C1 : Hid (∀ W, _) := Lib.hid fun W => Tryd.strings_CutPrefix s ⟨#[45]⟩ W
  have e45 : (⟨#[45]⟩ : ByteArray).data.toList = [45] := rfl
  have e47 : (⟨#[47]⟩ : ByteArray).data.toList = [47] := rfl
  rw [e45, ← hu, ← hng] at C1
  have C2 : Hid (∀ W : World, W.cell? ⟨2, 0, none⟩ = some (.int .i64 m) → _) := Lib.hid fun W h => Tryd.strings_Cut U ⟨#[47]⟩ m W (by omega) h
  rw [e47, ← hN, ← hD, ← hfo] at C2
  have CV : Hid (∀ (Y : ByteArray) (W : World), Y.size ≤ 1048576 → Below w.heap.size w W → _) := Lib.hid fun Y W h1 hW => implValid_any ng N Y W (by omega) (by omega) (hU.below hW) (hT.below hW)
  have hR := Box.new w 26 #[.bool false, .string ⟨#[]⟩, .string ⟨#[]⟩]
  have hB := (Below.refl w.heap.size w).alloc (Nat.le_refl _) (.cells #[.bool false, .string ⟨#[]⟩, .string ⟨#[]⟩] 26)
  have hM := (hB.cell (p := ⟨2, 0, none⟩) hmb).trans hm
  clear hU hT hm hu hng hN hD hfo e45 e47
  unfold cutRes
  cases fo with
  | false =>
    rw [if_neg (by decide)]
    have CW : Hid (∀ W : World, Below w.heap.size w W → _) := Lib.hid fun W hW => CV.out ⟨#[49]⟩ W (by show 1 ≤ _; omega) hW
    cases hv : validR ng N ⟨#[49]⟩ with
    | false =>
      rw [hv] at CW
      rw [if_neg (by decide)]
      clear hv CV
      go_enter Tryd.func36, Tryd.ntmps36
      go_wp2_with (first
        | (go_at_call 68; refine (C1.out _).mono ?_; rintro e w1 ⟨rfl, rfl⟩)
        | (go_at_call 69; refine (C2.out _ hM).mono ?_; rintro e w2 ⟨rfl, k, rfl⟩; replace hB := below_dn hB k; have hR2 := box_dn hR k; obtain ⟨z0, z1, z2, f0, f1, f2⟩ := hR2.three)
        | (go_at_call 17; refine (CW.out _ hB).mono ?_; rintro e w3 ⟨rfl, hb3⟩; have hB3 := hB.trans (hb3.mono hB.size); have hR3 := hR2.below hb3 hR2.lt; clear z0 z1 z2 f0 f1 f2; obtain ⟨z0, z1, z2, f0, f1, f2⟩ := hR3.three))
      obtain ⟨m0, m1, m2⟩ := hR3.put3 (.bool false) (.string ⟨#[]⟩) (.string ⟨#[]⟩)
      refine bodyPost_ret (v := noRat) (by simp [results, Tryd.results36, go_sem, noRat, m0, m1, m2]; done) rfl ⟨rfl, ?_⟩
      exact below_put3 hB3 (Nat.le_refl _) _ _ _
    | true =>
      rw [hv] at CW
      rw [if_pos rfl]
      clear hv CV
      go_enter Tryd.func36, Tryd.ntmps36
      go_wp2_with (first
        | (go_at_call 68; refine (C1.out _).mono ?_; rintro e w1 ⟨rfl, rfl⟩)
        | (go_at_call 69; refine (C2.out _ hM).mono ?_; rintro e w2 ⟨rfl, k, rfl⟩; replace hB := below_dn hB k; have hR2 := box_dn hR k; obtain ⟨z0, z1, z2, f0, f1, f2⟩ := hR2.three)
        | (go_at_call 17; refine (CW.out _ hB).mono ?_; rintro e w3 ⟨rfl, hb3⟩; have hB3 := hB.trans (hb3.mono hB.size); have hR3 := hR2.below hb3 hR2.lt; clear z0 z1 z2 f0 f1 f2; obtain ⟨z0, z1, z2, f0, f1, f2⟩ := hR3.three)
        | (go_at_call_of 70 (Value.string N); refine (clone_any' N _ (by first | omega | (show 1 ≤ _; omega))).mono ?_; rintro e w4 ⟨rfl, hb4⟩; have hB4 := hB3.trans (hb4.mono hB3.size); have hR4 := hR3.below hb4 hR3.lt; clear z0 z1 z2 f0 f1 f2; obtain ⟨z0, z1, z2, f0, f1, f2⟩ := hR4.three)
        | (go_at_call_of 70 (Value.string ⟨#[49]⟩); refine (clone_any' ⟨#[49]⟩ _ (by first | omega | (show 1 ≤ _; omega))).mono ?_; rintro e w5 ⟨rfl, hb5⟩; have hB5 := hB4.trans (hb5.mono hB4.size); have hR5 := hR4.below hb5 hR4.lt; clear z0 z1 z2 f0 f1 f2; obtain ⟨z0, z1, z2, f0, f1, f2⟩ := hR5.three))
      obtain ⟨m0, m1, m2⟩ := hR5.put3 (.bool ng) (.string N) (.string ⟨#[49]⟩)
      refine bodyPost_ret (v := .tuple #[.agg #[.bool ng, .string N, .string ⟨#[49]⟩], .bool true]) (by simp [results, Tryd.results36, go_sem, m0, m1, m2]; done) rfl ⟨rfl, ?_⟩
      exact below_put3 hB5 (Nat.le_refl _) _ _ _
  | true =>
    rw [if_pos rfl]
    by_cases h1 : (D.toList == [49]) = true
    · rw [if_pos h1]
      clear CV
      go_enter Tryd.func36, Tryd.ntmps36
      go_wp2_with (first
        | (go_at_call 68; refine (C1.out _).mono ?_; rintro e w1 ⟨rfl, rfl⟩)
        | (go_at_call 69; refine (C2.out _ hM).mono ?_; rintro e w2 ⟨rfl, k, rfl⟩; replace hB := below_dn hB k; have hR2 := box_dn hR k; obtain ⟨z0, z1, z2, f0, f1, f2⟩ := hR2.three))
      obtain ⟨m0, m1, m2⟩ := hR2.put3 (.bool false) (.string ⟨#[]⟩) (.string ⟨#[]⟩)
      refine bodyPost_ret (v := noRat) (by simp [results, Tryd.results36, go_sem, noRat, m0, m1, m2]; done) rfl ⟨rfl, ?_⟩
      exact below_put3 hB (Nat.le_refl _) _ _ _
    · rw [if_neg h1]
      have h1' : (D.toList == [49]) = false := by simpa using h1
      clear h1
      have CW : Hid (∀ W : World, Below w.heap.size w W → _) := Lib.hid fun W hW => CV.out D W sD hW
      cases hv : validR ng N D with
      | false =>
        rw [hv] at CW
        rw [if_neg (by decide)]
        clear hv CV
        go_enter Tryd.func36, Tryd.ntmps36
        go_wp2_with (first
          | (go_at_call 68; refine (C1.out _).mono ?_; rintro e w1 ⟨rfl, rfl⟩)
          | (go_at_call 69; refine (C2.out _ hM).mono ?_; rintro e w2 ⟨rfl, k, rfl⟩; replace hB := below_dn hB k; have hR2 := box_dn hR k; obtain ⟨z0, z1, z2, f0, f1, f2⟩ := hR2.three)
          | (go_at_call 17; refine (CW.out _ hB).mono ?_; rintro e w3 ⟨rfl, hb3⟩; have hB3 := hB.trans (hb3.mono hB.size); have hR3 := hR2.below hb3 hR2.lt; clear z0 z1 z2 f0 f1 f2; obtain ⟨z0, z1, z2, f0, f1, f2⟩ := hR3.three))
        obtain ⟨m0, m1, m2⟩ := hR3.put3 (.bool false) (.string ⟨#[]⟩) (.string ⟨#[]⟩)
        refine bodyPost_ret (v := noRat) (by simp [results, Tryd.results36, go_sem, noRat, m0, m1, m2]; done) rfl ⟨rfl, ?_⟩
        exact below_put3 hB3 (Nat.le_refl _) _ _ _
      | true =>
        rw [hv] at CW
        rw [if_pos rfl]
        clear hv CV
        go_enter Tryd.func36, Tryd.ntmps36
        go_wp2_with (first
          | (go_at_call 68; refine (C1.out _).mono ?_; rintro e w1 ⟨rfl, rfl⟩)
          | (go_at_call 69; refine (C2.out _ hM).mono ?_; rintro e w2 ⟨rfl, k, rfl⟩; replace hB := below_dn hB k; have hR2 := box_dn hR k; obtain ⟨z0, z1, z2, f0, f1, f2⟩ := hR2.three)
          | (go_at_call 17; refine (CW.out _ hB).mono ?_; rintro e w3 ⟨rfl, hb3⟩; have hB3 := hB.trans (hb3.mono hB.size); have hR3 := hR2.below hb3 hR2.lt; clear z0 z1 z2 f0 f1 f2; obtain ⟨z0, z1, z2, f0, f1, f2⟩ := hR3.three)
          | (go_at_call_of 70 (Value.string N); refine (clone_any' N _ (by first | omega | (show 1 ≤ _; omega))).mono ?_; rintro e w4 ⟨rfl, hb4⟩; have hB4 := hB3.trans (hb4.mono hB3.size); have hR4 := hR3.below hb4 hR3.lt; clear z0 z1 z2 f0 f1 f2; obtain ⟨z0, z1, z2, f0, f1, f2⟩ := hR4.three)
          | (go_at_call_of 70 (Value.string D); refine (clone_any' D _ (by first | omega | (show 1 ≤ _; omega))).mono ?_; rintro e w5 ⟨rfl, hb5⟩; have hB5 := hB4.trans (hb5.mono hB4.size); have hR5 := hR4.below hb5 hR4.lt; clear z0 z1 z2 f0 f1 f2; obtain ⟨z0, z1, z2, f0, f1, f2⟩ := hR5.three))
        obtain ⟨m0, m1, m2⟩ := hR5.put3 (.bool ng) (.string N) (.string D)
        refine bodyPost_ret (v := .tuple #[.agg #[.bool ng, .string N, .string D], .bool true]) (by simp [results, Tryd.results36, go_sem, m0, m1, m2]; done) rfl ⟨rfl, ?_⟩
        exact below_put3 hB5 (Nat.le_refl _) _ _ _

end Go.Proofs.YteefgmnjhlmbiaaDoor
