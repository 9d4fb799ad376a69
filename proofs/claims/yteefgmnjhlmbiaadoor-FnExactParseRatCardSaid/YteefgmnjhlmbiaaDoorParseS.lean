/-
  The model's ParseRat.
-/
import Derived.Test.YteefgmnjhlmbiaaDoorSplit
import Derived.Test.YteefgmnjhlmbiaaDoorFmtR
namespace Go.Proofs.YteefgmnjhlmbiaaDoor
open Go.RowKit Num

def sgnOf (s : ByteArray) : Bool := decide (0 < s.size ∧ byt s 0 = 45)
def restOf (s : ByteArray) : ByteArray := if sgnOf s = true then s.extract 1 s.size else s
def numP (r : ByteArray) : ByteArray := (parts r).getD 0 ⟨#[]⟩
def denP (r : ByteArray) : ByteArray := if 1 < (parts r).length then (parts r).getD 1 ⟨#[]⟩ else ⟨#[49]⟩
/-- What the model answers, for a sign and the rest of the text. -/
def specRes (s : ByteArray) (neg : Bool) (r : ByteArray) : Value :=
  if (validR neg (numP r) (denP r) && ((fmtS neg (numP r) (denP r)).toList == s.toList)) = true then .tuple #[.agg #[.bool neg, .string (numP r), .string (denP r)], .bool true] else noRat

theorem parts_pos (r : ByteArray) : 0 < (parts r).length := by
  unfold parts
  rw [List.length_append, List.length_cons, List.length_nil]
  omega

theorem extract_le (s : ByteArray) (a b : Nat) : (s.extract a b).size ≤ s.size := by
  rw [ByteArray.size_extract]; omega

theorem splS_size (s : ByteArray) (k : Nat) : ∀ p ∈ (splS s k).1, p.size ≤ s.size := by
  induction k with
  | zero => intro p hp; cases hp
  | succ k ih =>
    unfold splS
    split
    · intro p hp
      rcases List.mem_append.1 hp with h | h
      · exact ih p h
      · rcases List.mem_singleton.1 h with rfl
        exact extract_le _ _ _
    · exact ih

theorem part_le (s : ByteArray) (j : Nat) : ((parts s).getD j ⟨#[]⟩).size ≤ s.size := by
  rcases Nat.lt_or_ge j (parts s).length with h | h
  · rw [List.getD_eq_getElem?_getD, List.getElem?_eq_getElem h]
    have hm : (parts s)[j] ∈ parts s := List.getElem_mem h
    show ((parts s)[j]).size ≤ _
    unfold parts at hm ⊢
    rcases List.mem_append.1 hm with h' | h'
    · exact splS_size s _ _ h'
    · rw [List.mem_singleton.1 h']; exact extract_le _ _ _
  · rw [List.getD_eq_getElem?_getD, List.getElem?_eq_none h]
    exact Nat.zero_le _

theorem own_strs {w : World} {base : Nat} {e : TypeId} {v : Value} {ps : List ByteArray} (h : w.ownsRow base e 1 v ps.length (ps.map Value.string)) (hp : 0 < ps.length) :
    ∃ g cap, v = .slice (some ⟨g, 0, none⟩) ps.length cap ∧ base ≤ g ∧ ∀ j, j < ps.length → w.cell? ⟨g, j, none⟩ = some (.string (ps.getD j ⟨#[]⟩)) := by
  rcases h.2 with ⟨_, h0⟩ | ⟨g, cap, cur, hv, hb, _⟩
  · omega
  · subst hv
    refine ⟨g, cap, rfl, hb, fun j hj => ?_⟩
    have hadd : (⟨g, 0, none⟩ : Addr).add j = ⟨g, j, none⟩ := by
      unfold Addr.add
      split
      · rename_i hj0; rw [hj0]
      · simp
    rw [← hadd]
    refine h.cells (g := g) rfl j _ ?_
    rw [List.getElem?_map, List.getElem?_eq_getElem hj, List.getD_eq_getElem?_getD, List.getElem?_eq_getElem hj]
    rfl

set_option maxRecDepth 100000 in
set_option maxHeartbeats 3200000 in
theorem specParse_neg (s : ByteArray) (w : World) (hs : s.size ≤ 1048576) (h0 : 0 < s.size) (h45 : byt s 0 = 45) :
    Calls Tryd.prog 35 #[.string s] w fun e w' => e = .returned (specRes s true (s.extract 1 s.size)) ∧ Below w.heap.size w w' := by
  have hb := byt_eq s 0 h0
  have he : (s.toList == []) = false := by
    rw [beq_eq_false_iff_ne]
    intro hc
    have := len_list s
    rw [hc] at this
    simp at this
    omega
  have hz : ((byt s 0 : Int) == 45) = true := by rw [beq_iff_eq]; omega
  obtain ⟨R, hR⟩ : ∃ R, R = s.extract 1 s.size := ⟨_, rfl⟩
  have hRs : R.size ≤ 1048576 := by rw [hR, ByteArray.size_extract]; omega
  have CP := Lib.hid (fun W => split_any R W hRs)
  have HR := Lib.hid hR
  rw [← hR]
  clear hR
  have hA := (Box.new w 26 #[.bool false, .string ⟨#[]⟩, .string ⟨#[]⟩]).alloc (.cells #[.bool true, .string ⟨#[]⟩, .string ⟨#[49]⟩] 26)
  have hG := Box.new (w.alloc (.cells #[.bool false, .string ⟨#[]⟩, .string ⟨#[]⟩] 26)) 26 #[.bool true, .string ⟨#[]⟩, .string ⟨#[49]⟩]
  rw [show (w.alloc (.cells #[.bool false, .string ⟨#[]⟩, .string ⟨#[]⟩] 26)).heap.size = w.heap.size + 1 by simp] at hG
  have hB := ((Below.refl w.heap.size w).alloc (Nat.le_refl _) (.cells #[.bool false, .string ⟨#[]⟩, .string ⟨#[]⟩] 26)).alloc (by simp) (.cells #[.bool true, .string ⟨#[]⟩, .string ⟨#[49]⟩] 26)
  go_enter Tryd.func35, Tryd.ntmps35
  go_upto_region 5 with fail
  rw [← HR.out]
  go_upto_region 6 with (go_at_call 67; refine (CP.out _).mono ?_; rintro e w1 ⟨⟨v, rfl, hown⟩, hb1⟩)
  obtain ⟨g, cap, rfl, hg, hcell⟩ := own_strs hown (parts_pos R)
  have hA1 := hA.below hb1 hA.lt
  have hG1 := hG.below hb1 hG.lt
  have hB1 := hB.trans (hb1.mono hB.size)
  have hgG : g ≠ w.heap.size + 1 := by simp at hg; omega
  have hGg : w.heap.size + 1 ≠ g := hgG.symm
  obtain ⟨X, hX⟩ : ∃ X, X = numP R := ⟨_, rfl⟩
  have hc0 : w1.cell? ⟨g, 0, none⟩ = some (.string X) := by rw [hX]; exact hcell 0 (parts_pos R)
  obtain ⟨L, hL⟩ : ∃ L, L = (parts R).length := ⟨_, rfl⟩
  have hLp : 0 < L := by rw [hL]; exact parts_pos R
  have hLs : L ≤ 1048577 := by
    have := (splS_le R R.size).2
    rw [hL]
    unfold parts
    rw [List.length_append, List.length_cons, List.length_nil]
    omega
  obtain ⟨Y, hY⟩ : ∃ Y, Y = denP R := ⟨_, rfl⟩
  have HRES := Lib.hid (show specRes s true R = if (validR true X Y && ((fmtS true X Y).toList == s.toList)) = true then .tuple #[.agg #[.bool true, .string X, .string Y], .bool true] else noRat by unfold specRes; rw [← hX, ← hY])
  have hXs : X.size ≤ 1048576 := by rw [hX]; exact Nat.le_trans (part_le R 0) hRs
  have hYs : Y.size ≤ 1048576 := by
    rw [hY, denP]
    split
    · exact Nat.le_trans (part_le R 1) hRs
    · show 1 ≤ _
      omega
  obtain ⟨q0, q1, q2, p0, p1, p2⟩ := hG1.three
  rw [← hL]
  have hG2 := hG1.set 1 (.string X)
  by_cases h1 : 1 < L
  · have hc1 : w1.cell? ⟨g, 1, none⟩ = some (.string Y) := by
      rw [hY, denP, if_pos (by rw [← hL]; exact h1)]
      exact hcell 1 (by rw [← hL]; exact h1)
    clear hcell hown hX hY hL
    go_upto_region 9 with fail
    obtain ⟨W, hWe⟩ : ∃ W, W = (w1.setCell ⟨w.heap.size + 1, 1, none⟩ (.string X)).setCell ⟨w.heap.size + 1, 2, none⟩ (.string Y) := ⟨_, rfl⟩
    have hG3 : Box ((w1.setCell ⟨w.heap.size + 1, 1, none⟩ (.string X)).setCell ⟨w.heap.size + 1, 2, none⟩ (.string Y)) (w.heap.size + 1) 26 #[.bool true, .string X, .string Y] := (hG1.set 1 _).set 2 _
    have hA3 : Box ((w1.setCell ⟨w.heap.size + 1, 1, none⟩ (.string X)).setCell ⟨w.heap.size + 1, 2, none⟩ (.string Y)) w.heap.size 26 #[.bool false, .string ⟨#[]⟩, .string ⟨#[]⟩] := (hA1.other (by omega : w.heap.size + 1 ≠ w.heap.size) 1 _).other (by omega : w.heap.size + 1 ≠ w.heap.size) 2 _
    have hB3 : Below w.heap.size w ((w1.setCell ⟨w.heap.size + 1, 1, none⟩ (.string X)).setCell ⟨w.heap.size + 1, 2, none⟩ (.string Y)) := (hB1.setCell (p := ⟨w.heap.size + 1, 1, none⟩) (by simp) _).setCell (p := ⟨w.heap.size + 1, 2, none⟩) (by simp) _
    rw [← hWe] at hG3 hA3 hB3 ⊢
    clear hWe hG hG1 hG2 hA hA1 hB hB1 hc0 hc1 q0 q1 q2 p0 p1 p2 hgG hGg hb1 he hz
    obtain ⟨u0, u1, u2, _, _, _⟩ := hG3.three
    have CV : Hid (∀ W, _) := Lib.hid fun W => validS_any true X Y W (by omega) (by omega)
    cases hv : validR true X Y with
    | false =>
      rw [hv] at CV
      have HN := Lib.hid (show specRes s true R = noRat by rw [HRES.out, hv, Bool.false_and, if_neg (by decide)])
      clear hv
      go_wp2_with (go_at_call 39; refine (CV.out _).mono ?_; rintro e w2 ⟨rfl, hb2⟩; have hG4 := hG3.below hb2 hG3.lt; have hA4 := hA3.below hb2 hA3.lt; have hB4 := hB3.trans (hb2.mono hB3.size); clear u0 u1 u2; obtain ⟨u0, u1, u2, _, _, _⟩ := hG4.three; obtain ⟨z0, z1, z2, f0, f1, f2⟩ := hA4.three)
      obtain ⟨m0, m1, m2⟩ := hA4.put3 (.bool false) (.string ⟨#[]⟩) (.string ⟨#[]⟩)
      refine bodyPost_ret (v := noRat) (by simp [results, Tryd.results35, go_sem, noRat, m0, m1, m2]; done) rfl ?_
      exact ⟨by rw [HN.out], below_put3 hB4 (Nat.le_refl _) _ _ _⟩
    | true =>
      rw [hv] at CV
      obtain ⟨n1, n2, _, _⟩ := validR_num hv
      have l1 : X.size ≤ 120 := (isNum_parts n1).1.2
      have l2 : Y.size ≤ 120 := (isNum_parts n2).1.2
      have CF : Hid (∀ W, _) := Lib.hid fun W => specFormat1_any true X Y W l1 l2
      obtain ⟨T, hT⟩ : ∃ T, T = fmtS true X Y := ⟨_, rfl⟩
      rw [← hT] at CF
      cases hq : (T.toList == s.toList) with
      | false =>
        have HN := Lib.hid (show specRes s true R = noRat by rw [HRES.out, ← hT, hq, Bool.and_false, if_neg (by decide)])
        clear hv hT n1 n2
        go_wp2_with (first
          | (go_at_call 39; refine (CV.out _).mono ?_; rintro e w2 ⟨rfl, hb2⟩; have hG4 := hG3.below hb2 hG3.lt; have hA4 := hA3.below hb2 hA3.lt; have hB4 := hB3.trans (hb2.mono hB3.size); clear u0 u1 u2; obtain ⟨u0, u1, u2, _, _, _⟩ := hG4.three; obtain ⟨z0, z1, z2, f0, f1, f2⟩ := hA4.three)
          | (go_at_call 63; refine (CF.out _).mono ?_; rintro e w3 ⟨rfl, hb3⟩; have hG5 := hG4.below hb3 hG4.lt; have hA5 := hA4.below hb3 hA4.lt; have hB5 := hB4.trans (hb3.mono hB4.size); clear u0 u1 u2 z0 z1 z2 f0 f1 f2; obtain ⟨u0, u1, u2, _, _, _⟩ := hG5.three; obtain ⟨z0, z1, z2, f0, f1, f2⟩ := hA5.three))
        obtain ⟨m0, m1, m2⟩ := hA5.put3 (.bool false) (.string ⟨#[]⟩) (.string ⟨#[]⟩)
        refine bodyPost_ret (v := noRat) (by simp [results, Tryd.results35, go_sem, noRat, m0, m1, m2]; done) rfl ?_
        exact ⟨by rw [HN.out], below_put3 hB5 (Nat.le_refl _) _ _ _⟩
      | true =>
        have HN := Lib.hid (show specRes s true R = .tuple #[.agg #[.bool true, .string X, .string Y], .bool true] by rw [HRES.out, hv, ← hT, hq, Bool.and_true, if_pos rfl])
        clear hv hT n1 n2
        go_wp2_with (first
          | (go_at_call 39; refine (CV.out _).mono ?_; rintro e w2 ⟨rfl, hb2⟩; have hG4 := hG3.below hb2 hG3.lt; have hA4 := hA3.below hb2 hA3.lt; have hB4 := hB3.trans (hb2.mono hB3.size); clear u0 u1 u2; obtain ⟨u0, u1, u2, _, _, _⟩ := hG4.three; obtain ⟨z0, z1, z2, f0, f1, f2⟩ := hA4.three)
          | (go_at_call 63; refine (CF.out _).mono ?_; rintro e w3 ⟨rfl, hb3⟩; have hG5 := hG4.below hb3 hG4.lt; have hA5 := hA4.below hb3 hA4.lt; have hB5 := hB4.trans (hb3.mono hB4.size); clear u0 u1 u2 z0 z1 z2 f0 f1 f2; obtain ⟨u0, u1, u2, _, _, _⟩ := hG5.three; obtain ⟨z0, z1, z2, f0, f1, f2⟩ := hA5.three))
        obtain ⟨m0, m1, m2⟩ := hA5.put3 (.bool true) (.string X) (.string Y)
        refine bodyPost_ret (v := .tuple #[.agg #[.bool true, .string X, .string Y], .bool true]) (by simp [results, Tryd.results35, go_sem, m0, m1, m2]; done) rfl ?_
        exact ⟨by rw [HN.out], below_put3 hB5 (Nat.le_refl _) _ _ _⟩
  · have hYe : Y = ⟨#[49]⟩ := by rw [hY, denP, if_neg (by rw [← hL]; exact h1)]
    clear hcell hown hX hY hL
    go_upto_region 9 with fail
    obtain ⟨W, hWe⟩ : ∃ W, W = w1.setCell ⟨w.heap.size + 1, 1, none⟩ (.string X) := ⟨_, rfl⟩
    have hG3 : Box (w1.setCell ⟨w.heap.size + 1, 1, none⟩ (.string X)) (w.heap.size + 1) 26 #[.bool true, .string X, .string Y] := by rw [hYe]; exact hG1.set 1 _
    clear hYe
    have hA3 : Box (w1.setCell ⟨w.heap.size + 1, 1, none⟩ (.string X)) w.heap.size 26 #[.bool false, .string ⟨#[]⟩, .string ⟨#[]⟩] := hA1.other (by omega : w.heap.size + 1 ≠ w.heap.size) 1 _
    have hB3 : Below w.heap.size w (w1.setCell ⟨w.heap.size + 1, 1, none⟩ (.string X)) := hB1.setCell (p := ⟨w.heap.size + 1, 1, none⟩) (by simp) _
    rw [← hWe] at hG3 hA3 hB3 ⊢
    clear hWe hG hG1 hG2 hA hA1 hB hB1 hc0 q0 q1 q2 p0 p1 p2 hgG hGg hb1 he hz
    obtain ⟨u0, u1, u2, _, _, _⟩ := hG3.three
    have CV : Hid (∀ W, _) := Lib.hid fun W => validS_any true X Y W (by omega) (by omega)
    cases hv : validR true X Y with
    | false =>
      rw [hv] at CV
      have HN := Lib.hid (show specRes s true R = noRat by rw [HRES.out, hv, Bool.false_and, if_neg (by decide)])
      clear hv
      go_wp2_with (go_at_call 39; refine (CV.out _).mono ?_; rintro e w2 ⟨rfl, hb2⟩; have hG4 := hG3.below hb2 hG3.lt; have hA4 := hA3.below hb2 hA3.lt; have hB4 := hB3.trans (hb2.mono hB3.size); clear u0 u1 u2; obtain ⟨u0, u1, u2, _, _, _⟩ := hG4.three; obtain ⟨z0, z1, z2, f0, f1, f2⟩ := hA4.three)
      obtain ⟨m0, m1, m2⟩ := hA4.put3 (.bool false) (.string ⟨#[]⟩) (.string ⟨#[]⟩)
      refine bodyPost_ret (v := noRat) (by simp [results, Tryd.results35, go_sem, noRat, m0, m1, m2]; done) rfl ?_
      exact ⟨by rw [HN.out], below_put3 hB4 (Nat.le_refl _) _ _ _⟩
    | true =>
      rw [hv] at CV
      obtain ⟨n1, n2, _, _⟩ := validR_num hv
      have l1 : X.size ≤ 120 := (isNum_parts n1).1.2
      have l2 : Y.size ≤ 120 := (isNum_parts n2).1.2
      have CF : Hid (∀ W, _) := Lib.hid fun W => specFormat1_any true X Y W l1 l2
      obtain ⟨T, hT⟩ : ∃ T, T = fmtS true X Y := ⟨_, rfl⟩
      rw [← hT] at CF
      cases hq : (T.toList == s.toList) with
      | false =>
        have HN := Lib.hid (show specRes s true R = noRat by rw [HRES.out, ← hT, hq, Bool.and_false, if_neg (by decide)])
        clear hv hT n1 n2
        go_wp2_with (first
          | (go_at_call 39; refine (CV.out _).mono ?_; rintro e w2 ⟨rfl, hb2⟩; have hG4 := hG3.below hb2 hG3.lt; have hA4 := hA3.below hb2 hA3.lt; have hB4 := hB3.trans (hb2.mono hB3.size); clear u0 u1 u2; obtain ⟨u0, u1, u2, _, _, _⟩ := hG4.three; obtain ⟨z0, z1, z2, f0, f1, f2⟩ := hA4.three)
          | (go_at_call 63; refine (CF.out _).mono ?_; rintro e w3 ⟨rfl, hb3⟩; have hG5 := hG4.below hb3 hG4.lt; have hA5 := hA4.below hb3 hA4.lt; have hB5 := hB4.trans (hb3.mono hB4.size); clear u0 u1 u2 z0 z1 z2 f0 f1 f2; obtain ⟨u0, u1, u2, _, _, _⟩ := hG5.three; obtain ⟨z0, z1, z2, f0, f1, f2⟩ := hA5.three))
        obtain ⟨m0, m1, m2⟩ := hA5.put3 (.bool false) (.string ⟨#[]⟩) (.string ⟨#[]⟩)
        refine bodyPost_ret (v := noRat) (by simp [results, Tryd.results35, go_sem, noRat, m0, m1, m2]; done) rfl ?_
        exact ⟨by rw [HN.out], below_put3 hB5 (Nat.le_refl _) _ _ _⟩
      | true =>
        have HN := Lib.hid (show specRes s true R = .tuple #[.agg #[.bool true, .string X, .string Y], .bool true] by rw [HRES.out, hv, ← hT, hq, Bool.and_true, if_pos rfl])
        clear hv hT n1 n2
        go_wp2_with (first
          | (go_at_call 39; refine (CV.out _).mono ?_; rintro e w2 ⟨rfl, hb2⟩; have hG4 := hG3.below hb2 hG3.lt; have hA4 := hA3.below hb2 hA3.lt; have hB4 := hB3.trans (hb2.mono hB3.size); clear u0 u1 u2; obtain ⟨u0, u1, u2, _, _, _⟩ := hG4.three; obtain ⟨z0, z1, z2, f0, f1, f2⟩ := hA4.three)
          | (go_at_call 63; refine (CF.out _).mono ?_; rintro e w3 ⟨rfl, hb3⟩; have hG5 := hG4.below hb3 hG4.lt; have hA5 := hA4.below hb3 hA4.lt; have hB5 := hB4.trans (hb3.mono hB4.size); clear u0 u1 u2 z0 z1 z2 f0 f1 f2; obtain ⟨u0, u1, u2, _, _, _⟩ := hG5.three; obtain ⟨z0, z1, z2, f0, f1, f2⟩ := hA5.three))
        obtain ⟨m0, m1, m2⟩ := hA5.put3 (.bool true) (.string X) (.string Y)
        refine bodyPost_ret (v := .tuple #[.agg #[.bool true, .string X, .string Y], .bool true]) (by simp [results, Tryd.results35, go_sem, m0, m1, m2]; done) rfl ?_
        exact ⟨by rw [HN.out], below_put3 hB5 (Nat.le_refl _) _ _ _⟩

set_option maxRecDepth 100000 in
set_option maxHeartbeats 3200000 in
theorem specParse_pos (s : ByteArray) (w : World) (hs : s.size ≤ 1048576) (h0 : 0 < s.size) (h45 : byt s 0 ≠ 45) :
    Calls Tryd.prog 35 #[.string s] w fun e w' => e = .returned (specRes s false s) ∧ Below w.heap.size w w' := by
  have hb := byt_eq s 0 h0
  have he : (s.toList == []) = false := by
    rw [beq_eq_false_iff_ne]
    intro hc
    have := len_list s
    rw [hc] at this
    simp at this
    omega
  have hz : ((byt s 0 : Int) == 45) = false := by rw [beq_eq_false_iff_ne]; omega
  have hRs : s.size ≤ 1048576 := hs
  have CP := Lib.hid (fun W => split_any s W hRs)
  have hA := (Box.new w 26 #[.bool false, .string ⟨#[]⟩, .string ⟨#[]⟩]).alloc (.cells #[.bool false, .string ⟨#[]⟩, .string ⟨#[49]⟩] 26)
  have hG := Box.new (w.alloc (.cells #[.bool false, .string ⟨#[]⟩, .string ⟨#[]⟩] 26)) 26 #[.bool false, .string ⟨#[]⟩, .string ⟨#[49]⟩]
  rw [show (w.alloc (.cells #[.bool false, .string ⟨#[]⟩, .string ⟨#[]⟩] 26)).heap.size = w.heap.size + 1 by simp] at hG
  have hB := ((Below.refl w.heap.size w).alloc (Nat.le_refl _) (.cells #[.bool false, .string ⟨#[]⟩, .string ⟨#[]⟩] 26)).alloc (by simp) (.cells #[.bool false, .string ⟨#[]⟩, .string ⟨#[49]⟩] 26)
  go_enter Tryd.func35, Tryd.ntmps35
  go_upto_region 5 with fail
  go_upto_region 6 with (go_at_call 67; refine (CP.out _).mono ?_; rintro e w1 ⟨⟨v, rfl, hown⟩, hb1⟩)
  obtain ⟨g, cap, rfl, hg, hcell⟩ := own_strs hown (parts_pos s)
  have hA1 := hA.below hb1 hA.lt
  have hG1 := hG.below hb1 hG.lt
  have hB1 := hB.trans (hb1.mono hB.size)
  have hgG : g ≠ w.heap.size + 1 := by simp at hg; omega
  have hGg : w.heap.size + 1 ≠ g := hgG.symm
  obtain ⟨X, hX⟩ : ∃ X, X = numP s := ⟨_, rfl⟩
  have hc0 : w1.cell? ⟨g, 0, none⟩ = some (.string X) := by rw [hX]; exact hcell 0 (parts_pos s)
  obtain ⟨L, hL⟩ : ∃ L, L = (parts s).length := ⟨_, rfl⟩
  have hLp : 0 < L := by rw [hL]; exact parts_pos s
  have hLs : L ≤ 1048577 := by
    have := (splS_le s s.size).2
    rw [hL]
    unfold parts
    rw [List.length_append, List.length_cons, List.length_nil]
    omega
  obtain ⟨Y, hY⟩ : ∃ Y, Y = denP s := ⟨_, rfl⟩
  have HRES := Lib.hid (show specRes s false s = if (validR false X Y && ((fmtS false X Y).toList == s.toList)) = true then .tuple #[.agg #[.bool false, .string X, .string Y], .bool true] else noRat by unfold specRes; rw [← hX, ← hY])
  have hXs : X.size ≤ 1048576 := by rw [hX]; exact Nat.le_trans (part_le s 0) hRs
  have hYs : Y.size ≤ 1048576 := by
    rw [hY, denP]
    split
    · exact Nat.le_trans (part_le s 1) hRs
    · show 1 ≤ _
      omega
  obtain ⟨q0, q1, q2, p0, p1, p2⟩ := hG1.three
  rw [← hL]
  have hG2 := hG1.set 1 (.string X)
  by_cases h1 : 1 < L
  · have hc1 : w1.cell? ⟨g, 1, none⟩ = some (.string Y) := by
      rw [hY, denP, if_pos (by rw [← hL]; exact h1)]
      exact hcell 1 (by rw [← hL]; exact h1)
    clear hcell hown hX hY hL
    go_upto_region 9 with fail
    obtain ⟨W, hWe⟩ : ∃ W, W = (w1.setCell ⟨w.heap.size + 1, 1, none⟩ (.string X)).setCell ⟨w.heap.size + 1, 2, none⟩ (.string Y) := ⟨_, rfl⟩
    have hG3 : Box ((w1.setCell ⟨w.heap.size + 1, 1, none⟩ (.string X)).setCell ⟨w.heap.size + 1, 2, none⟩ (.string Y)) (w.heap.size + 1) 26 #[.bool false, .string X, .string Y] := (hG1.set 1 _).set 2 _
    have hA3 : Box ((w1.setCell ⟨w.heap.size + 1, 1, none⟩ (.string X)).setCell ⟨w.heap.size + 1, 2, none⟩ (.string Y)) w.heap.size 26 #[.bool false, .string ⟨#[]⟩, .string ⟨#[]⟩] := (hA1.other (by omega : w.heap.size + 1 ≠ w.heap.size) 1 _).other (by omega : w.heap.size + 1 ≠ w.heap.size) 2 _
    have hB3 : Below w.heap.size w ((w1.setCell ⟨w.heap.size + 1, 1, none⟩ (.string X)).setCell ⟨w.heap.size + 1, 2, none⟩ (.string Y)) := (hB1.setCell (p := ⟨w.heap.size + 1, 1, none⟩) (by simp) _).setCell (p := ⟨w.heap.size + 1, 2, none⟩) (by simp) _
    rw [← hWe] at hG3 hA3 hB3 ⊢
    clear hWe hG hG1 hG2 hA hA1 hB hB1 hc0 hc1 q0 q1 q2 p0 p1 p2 hgG hGg hb1 he hz
    obtain ⟨u0, u1, u2, _, _, _⟩ := hG3.three
    have CV : Hid (∀ W, _) := Lib.hid fun W => validS_any false X Y W (by omega) (by omega)
    cases hv : validR false X Y with
    | false =>
      rw [hv] at CV
      have HN := Lib.hid (show specRes s false s = noRat by rw [HRES.out, hv, Bool.false_and, if_neg (by decide)])
      clear hv
      go_wp2_with (go_at_call 39; refine (CV.out _).mono ?_; rintro e w2 ⟨rfl, hb2⟩; have hG4 := hG3.below hb2 hG3.lt; have hA4 := hA3.below hb2 hA3.lt; have hB4 := hB3.trans (hb2.mono hB3.size); clear u0 u1 u2; obtain ⟨u0, u1, u2, _, _, _⟩ := hG4.three; obtain ⟨z0, z1, z2, f0, f1, f2⟩ := hA4.three)
      obtain ⟨m0, m1, m2⟩ := hA4.put3 (.bool false) (.string ⟨#[]⟩) (.string ⟨#[]⟩)
      refine bodyPost_ret (v := noRat) (by simp [results, Tryd.results35, go_sem, noRat, m0, m1, m2]; done) rfl ?_
      exact ⟨by rw [HN.out], below_put3 hB4 (Nat.le_refl _) _ _ _⟩
    | true =>
      rw [hv] at CV
      obtain ⟨n1, n2, _, _⟩ := validR_num hv
      have l1 : X.size ≤ 120 := (isNum_parts n1).1.2
      have l2 : Y.size ≤ 120 := (isNum_parts n2).1.2
      have CF : Hid (∀ W, _) := Lib.hid fun W => specFormat1_any false X Y W l1 l2
      obtain ⟨T, hT⟩ : ∃ T, T = fmtS false X Y := ⟨_, rfl⟩
      rw [← hT] at CF
      cases hq : (T.toList == s.toList) with
      | false =>
        have HN := Lib.hid (show specRes s false s = noRat by rw [HRES.out, ← hT, hq, Bool.and_false, if_neg (by decide)])
        clear hv hT n1 n2
        go_wp2_with (first
          | (go_at_call 39; refine (CV.out _).mono ?_; rintro e w2 ⟨rfl, hb2⟩; have hG4 := hG3.below hb2 hG3.lt; have hA4 := hA3.below hb2 hA3.lt; have hB4 := hB3.trans (hb2.mono hB3.size); clear u0 u1 u2; obtain ⟨u0, u1, u2, _, _, _⟩ := hG4.three; obtain ⟨z0, z1, z2, f0, f1, f2⟩ := hA4.three)
          | (go_at_call 63; refine (CF.out _).mono ?_; rintro e w3 ⟨rfl, hb3⟩; have hG5 := hG4.below hb3 hG4.lt; have hA5 := hA4.below hb3 hA4.lt; have hB5 := hB4.trans (hb3.mono hB4.size); clear u0 u1 u2 z0 z1 z2 f0 f1 f2; obtain ⟨u0, u1, u2, _, _, _⟩ := hG5.three; obtain ⟨z0, z1, z2, f0, f1, f2⟩ := hA5.three))
        obtain ⟨m0, m1, m2⟩ := hA5.put3 (.bool false) (.string ⟨#[]⟩) (.string ⟨#[]⟩)
        refine bodyPost_ret (v := noRat) (by simp [results, Tryd.results35, go_sem, noRat, m0, m1, m2]; done) rfl ?_
        exact ⟨by rw [HN.out], below_put3 hB5 (Nat.le_refl _) _ _ _⟩
      | true =>
        have HN := Lib.hid (show specRes s false s = .tuple #[.agg #[.bool false, .string X, .string Y], .bool true] by rw [HRES.out, hv, ← hT, hq, Bool.and_true, if_pos rfl])
        clear hv hT n1 n2
        go_wp2_with (first
          | (go_at_call 39; refine (CV.out _).mono ?_; rintro e w2 ⟨rfl, hb2⟩; have hG4 := hG3.below hb2 hG3.lt; have hA4 := hA3.below hb2 hA3.lt; have hB4 := hB3.trans (hb2.mono hB3.size); clear u0 u1 u2; obtain ⟨u0, u1, u2, _, _, _⟩ := hG4.three; obtain ⟨z0, z1, z2, f0, f1, f2⟩ := hA4.three)
          | (go_at_call 63; refine (CF.out _).mono ?_; rintro e w3 ⟨rfl, hb3⟩; have hG5 := hG4.below hb3 hG4.lt; have hA5 := hA4.below hb3 hA4.lt; have hB5 := hB4.trans (hb3.mono hB4.size); clear u0 u1 u2 z0 z1 z2 f0 f1 f2; obtain ⟨u0, u1, u2, _, _, _⟩ := hG5.three; obtain ⟨z0, z1, z2, f0, f1, f2⟩ := hA5.three))
        obtain ⟨m0, m1, m2⟩ := hA5.put3 (.bool false) (.string X) (.string Y)
        refine bodyPost_ret (v := .tuple #[.agg #[.bool false, .string X, .string Y], .bool true]) (by simp [results, Tryd.results35, go_sem, m0, m1, m2]; done) rfl ?_
        exact ⟨by rw [HN.out], below_put3 hB5 (Nat.le_refl _) _ _ _⟩
  · have hYe : Y = ⟨#[49]⟩ := by rw [hY, denP, if_neg (by rw [← hL]; exact h1)]
    clear hcell hown hX hY hL
    go_upto_region 9 with fail
    obtain ⟨W, hWe⟩ : ∃ W, W = w1.setCell ⟨w.heap.size + 1, 1, none⟩ (.string X) := ⟨_, rfl⟩
    have hG3 : Box (w1.setCell ⟨w.heap.size + 1, 1, none⟩ (.string X)) (w.heap.size + 1) 26 #[.bool false, .string X, .string Y] := by rw [hYe]; exact hG1.set 1 _
    clear hYe
    have hA3 : Box (w1.setCell ⟨w.heap.size + 1, 1, none⟩ (.string X)) w.heap.size 26 #[.bool false, .string ⟨#[]⟩, .string ⟨#[]⟩] := hA1.other (by omega : w.heap.size + 1 ≠ w.heap.size) 1 _
    have hB3 : Below w.heap.size w (w1.setCell ⟨w.heap.size + 1, 1, none⟩ (.string X)) := hB1.setCell (p := ⟨w.heap.size + 1, 1, none⟩) (by simp) _
    rw [← hWe] at hG3 hA3 hB3 ⊢
    clear hWe hG hG1 hG2 hA hA1 hB hB1 hc0 q0 q1 q2 p0 p1 p2 hgG hGg hb1 he hz
    obtain ⟨u0, u1, u2, _, _, _⟩ := hG3.three
    have CV : Hid (∀ W, _) := Lib.hid fun W => validS_any false X Y W (by omega) (by omega)
    cases hv : validR false X Y with
    | false =>
      rw [hv] at CV
      have HN := Lib.hid (show specRes s false s = noRat by rw [HRES.out, hv, Bool.false_and, if_neg (by decide)])
      clear hv
      go_wp2_with (go_at_call 39; refine (CV.out _).mono ?_; rintro e w2 ⟨rfl, hb2⟩; have hG4 := hG3.below hb2 hG3.lt; have hA4 := hA3.below hb2 hA3.lt; have hB4 := hB3.trans (hb2.mono hB3.size); clear u0 u1 u2; obtain ⟨u0, u1, u2, _, _, _⟩ := hG4.three; obtain ⟨z0, z1, z2, f0, f1, f2⟩ := hA4.three)
      obtain ⟨m0, m1, m2⟩ := hA4.put3 (.bool false) (.string ⟨#[]⟩) (.string ⟨#[]⟩)
      refine bodyPost_ret (v := noRat) (by simp [results, Tryd.results35, go_sem, noRat, m0, m1, m2]; done) rfl ?_
      exact ⟨by rw [HN.out], below_put3 hB4 (Nat.le_refl _) _ _ _⟩
    | true =>
      rw [hv] at CV
      obtain ⟨n1, n2, _, _⟩ := validR_num hv
      have l1 : X.size ≤ 120 := (isNum_parts n1).1.2
      have l2 : Y.size ≤ 120 := (isNum_parts n2).1.2
      have CF : Hid (∀ W, _) := Lib.hid fun W => specFormat1_any false X Y W l1 l2
      obtain ⟨T, hT⟩ : ∃ T, T = fmtS false X Y := ⟨_, rfl⟩
      rw [← hT] at CF
      cases hq : (T.toList == s.toList) with
      | false =>
        have HN := Lib.hid (show specRes s false s = noRat by rw [HRES.out, ← hT, hq, Bool.and_false, if_neg (by decide)])
        clear hv hT n1 n2
        go_wp2_with (first
          | (go_at_call 39; refine (CV.out _).mono ?_; rintro e w2 ⟨rfl, hb2⟩; have hG4 := hG3.below hb2 hG3.lt; have hA4 := hA3.below hb2 hA3.lt; have hB4 := hB3.trans (hb2.mono hB3.size); clear u0 u1 u2; obtain ⟨u0, u1, u2, _, _, _⟩ := hG4.three; obtain ⟨z0, z1, z2, f0, f1, f2⟩ := hA4.three)
          | (go_at_call 63; refine (CF.out _).mono ?_; rintro e w3 ⟨rfl, hb3⟩; have hG5 := hG4.below hb3 hG4.lt; have hA5 := hA4.below hb3 hA4.lt; have hB5 := hB4.trans (hb3.mono hB4.size); clear u0 u1 u2 z0 z1 z2 f0 f1 f2; obtain ⟨u0, u1, u2, _, _, _⟩ := hG5.three; obtain ⟨z0, z1, z2, f0, f1, f2⟩ := hA5.three))
        obtain ⟨m0, m1, m2⟩ := hA5.put3 (.bool false) (.string ⟨#[]⟩) (.string ⟨#[]⟩)
        refine bodyPost_ret (v := noRat) (by simp [results, Tryd.results35, go_sem, noRat, m0, m1, m2]; done) rfl ?_
        exact ⟨by rw [HN.out], below_put3 hB5 (Nat.le_refl _) _ _ _⟩
      | true =>
        have HN := Lib.hid (show specRes s false s = .tuple #[.agg #[.bool false, .string X, .string Y], .bool true] by rw [HRES.out, hv, ← hT, hq, Bool.and_true, if_pos rfl])
        clear hv hT n1 n2
        go_wp2_with (first
          | (go_at_call 39; refine (CV.out _).mono ?_; rintro e w2 ⟨rfl, hb2⟩; have hG4 := hG3.below hb2 hG3.lt; have hA4 := hA3.below hb2 hA3.lt; have hB4 := hB3.trans (hb2.mono hB3.size); clear u0 u1 u2; obtain ⟨u0, u1, u2, _, _, _⟩ := hG4.three; obtain ⟨z0, z1, z2, f0, f1, f2⟩ := hA4.three)
          | (go_at_call 63; refine (CF.out _).mono ?_; rintro e w3 ⟨rfl, hb3⟩; have hG5 := hG4.below hb3 hG4.lt; have hA5 := hA4.below hb3 hA4.lt; have hB5 := hB4.trans (hb3.mono hB4.size); clear u0 u1 u2 z0 z1 z2 f0 f1 f2; obtain ⟨u0, u1, u2, _, _, _⟩ := hG5.three; obtain ⟨z0, z1, z2, f0, f1, f2⟩ := hA5.three))
        obtain ⟨m0, m1, m2⟩ := hA5.put3 (.bool false) (.string X) (.string Y)
        refine bodyPost_ret (v := .tuple #[.agg #[.bool false, .string X, .string Y], .bool true]) (by simp [results, Tryd.results35, go_sem, m0, m1, m2]; done) rfl ?_
        exact ⟨by rw [HN.out], below_put3 hB5 (Nat.le_refl _) _ _ _⟩

set_option maxRecDepth 100000 in
set_option maxHeartbeats 3200000 in
theorem specParse_nil (s : ByteArray) (w : World) (hs : s.size ≤ 1048576) (h0 : s.size = 0) :
    Calls Tryd.prog 35 #[.string s] w fun e w' => e = .returned (specRes s false s) ∧ Below w.heap.size w w' := by
  have he : (s.toList == []) = true := by
    rw [beq_iff_eq]
    apply List.eq_nil_of_length_eq_zero
    rw [len_list, h0]
  have hRs : s.size ≤ 1048576 := hs
  have CP := Lib.hid (fun W => split_any s W hRs)
  have hA := (Box.new w 26 #[.bool false, .string ⟨#[]⟩, .string ⟨#[]⟩]).alloc (.cells #[.bool false, .string ⟨#[]⟩, .string ⟨#[49]⟩] 26)
  have hG := Box.new (w.alloc (.cells #[.bool false, .string ⟨#[]⟩, .string ⟨#[]⟩] 26)) 26 #[.bool false, .string ⟨#[]⟩, .string ⟨#[49]⟩]
  rw [show (w.alloc (.cells #[.bool false, .string ⟨#[]⟩, .string ⟨#[]⟩] 26)).heap.size = w.heap.size + 1 by simp] at hG
  have hB := ((Below.refl w.heap.size w).alloc (Nat.le_refl _) (.cells #[.bool false, .string ⟨#[]⟩, .string ⟨#[]⟩] 26)).alloc (by simp) (.cells #[.bool false, .string ⟨#[]⟩, .string ⟨#[49]⟩] 26)
  go_enter Tryd.func35, Tryd.ntmps35
  go_upto_region 5 with fail
  go_upto_region 6 with (go_at_call 67; refine (CP.out _).mono ?_; rintro e w1 ⟨⟨v, rfl, hown⟩, hb1⟩)
  obtain ⟨g, cap, rfl, hg, hcell⟩ := own_strs hown (parts_pos s)
  have hA1 := hA.below hb1 hA.lt
  have hG1 := hG.below hb1 hG.lt
  have hB1 := hB.trans (hb1.mono hB.size)
  have hgG : g ≠ w.heap.size + 1 := by simp at hg; omega
  have hGg : w.heap.size + 1 ≠ g := hgG.symm
  obtain ⟨X, hX⟩ : ∃ X, X = numP s := ⟨_, rfl⟩
  have hc0 : w1.cell? ⟨g, 0, none⟩ = some (.string X) := by rw [hX]; exact hcell 0 (parts_pos s)
  obtain ⟨L, hL⟩ : ∃ L, L = (parts s).length := ⟨_, rfl⟩
  have hLp : 0 < L := by rw [hL]; exact parts_pos s
  have hLs : L ≤ 1048577 := by
    have := (splS_le s s.size).2
    rw [hL]
    unfold parts
    rw [List.length_append, List.length_cons, List.length_nil]
    omega
  obtain ⟨Y, hY⟩ : ∃ Y, Y = denP s := ⟨_, rfl⟩
  have HRES := Lib.hid (show specRes s false s = if (validR false X Y && ((fmtS false X Y).toList == s.toList)) = true then .tuple #[.agg #[.bool false, .string X, .string Y], .bool true] else noRat by unfold specRes; rw [← hX, ← hY])
  have hXs : X.size ≤ 1048576 := by rw [hX]; exact Nat.le_trans (part_le s 0) hRs
  have hYs : Y.size ≤ 1048576 := by
    rw [hY, denP]
    split
    · exact Nat.le_trans (part_le s 1) hRs
    · show 1 ≤ _
      omega
  obtain ⟨q0, q1, q2, p0, p1, p2⟩ := hG1.three
  rw [← hL]
  have hG2 := hG1.set 1 (.string X)
  by_cases h1 : 1 < L
  · have hc1 : w1.cell? ⟨g, 1, none⟩ = some (.string Y) := by
      rw [hY, denP, if_pos (by rw [← hL]; exact h1)]
      exact hcell 1 (by rw [← hL]; exact h1)
    clear hcell hown hX hY hL
    go_upto_region 9 with fail
    obtain ⟨W, hWe⟩ : ∃ W, W = (w1.setCell ⟨w.heap.size + 1, 1, none⟩ (.string X)).setCell ⟨w.heap.size + 1, 2, none⟩ (.string Y) := ⟨_, rfl⟩
    have hG3 : Box ((w1.setCell ⟨w.heap.size + 1, 1, none⟩ (.string X)).setCell ⟨w.heap.size + 1, 2, none⟩ (.string Y)) (w.heap.size + 1) 26 #[.bool false, .string X, .string Y] := (hG1.set 1 _).set 2 _
    have hA3 : Box ((w1.setCell ⟨w.heap.size + 1, 1, none⟩ (.string X)).setCell ⟨w.heap.size + 1, 2, none⟩ (.string Y)) w.heap.size 26 #[.bool false, .string ⟨#[]⟩, .string ⟨#[]⟩] := (hA1.other (by omega : w.heap.size + 1 ≠ w.heap.size) 1 _).other (by omega : w.heap.size + 1 ≠ w.heap.size) 2 _
    have hB3 : Below w.heap.size w ((w1.setCell ⟨w.heap.size + 1, 1, none⟩ (.string X)).setCell ⟨w.heap.size + 1, 2, none⟩ (.string Y)) := (hB1.setCell (p := ⟨w.heap.size + 1, 1, none⟩) (by simp) _).setCell (p := ⟨w.heap.size + 1, 2, none⟩) (by simp) _
    rw [← hWe] at hG3 hA3 hB3 ⊢
    clear hWe hG hG1 hG2 hA hA1 hB hB1 hc0 hc1 q0 q1 q2 p0 p1 p2 hgG hGg hb1 he
    obtain ⟨u0, u1, u2, _, _, _⟩ := hG3.three
    have CV : Hid (∀ W, _) := Lib.hid fun W => validS_any false X Y W (by omega) (by omega)
    cases hv : validR false X Y with
    | false =>
      rw [hv] at CV
      have HN := Lib.hid (show specRes s false s = noRat by rw [HRES.out, hv, Bool.false_and, if_neg (by decide)])
      clear hv
      go_wp2_with (go_at_call 39; refine (CV.out _).mono ?_; rintro e w2 ⟨rfl, hb2⟩; have hG4 := hG3.below hb2 hG3.lt; have hA4 := hA3.below hb2 hA3.lt; have hB4 := hB3.trans (hb2.mono hB3.size); clear u0 u1 u2; obtain ⟨u0, u1, u2, _, _, _⟩ := hG4.three; obtain ⟨z0, z1, z2, f0, f1, f2⟩ := hA4.three)
      obtain ⟨m0, m1, m2⟩ := hA4.put3 (.bool false) (.string ⟨#[]⟩) (.string ⟨#[]⟩)
      refine bodyPost_ret (v := noRat) (by simp [results, Tryd.results35, go_sem, noRat, m0, m1, m2]; done) rfl ?_
      exact ⟨by rw [HN.out], below_put3 hB4 (Nat.le_refl _) _ _ _⟩
    | true =>
      rw [hv] at CV
      obtain ⟨n1, n2, _, _⟩ := validR_num hv
      have l1 : X.size ≤ 120 := (isNum_parts n1).1.2
      have l2 : Y.size ≤ 120 := (isNum_parts n2).1.2
      have CF : Hid (∀ W, _) := Lib.hid fun W => specFormat1_any false X Y W l1 l2
      obtain ⟨T, hT⟩ : ∃ T, T = fmtS false X Y := ⟨_, rfl⟩
      rw [← hT] at CF
      cases hq : (T.toList == s.toList) with
      | false =>
        have HN := Lib.hid (show specRes s false s = noRat by rw [HRES.out, ← hT, hq, Bool.and_false, if_neg (by decide)])
        clear hv hT n1 n2
        go_wp2_with (first
          | (go_at_call 39; refine (CV.out _).mono ?_; rintro e w2 ⟨rfl, hb2⟩; have hG4 := hG3.below hb2 hG3.lt; have hA4 := hA3.below hb2 hA3.lt; have hB4 := hB3.trans (hb2.mono hB3.size); clear u0 u1 u2; obtain ⟨u0, u1, u2, _, _, _⟩ := hG4.three; obtain ⟨z0, z1, z2, f0, f1, f2⟩ := hA4.three)
          | (go_at_call 63; refine (CF.out _).mono ?_; rintro e w3 ⟨rfl, hb3⟩; have hG5 := hG4.below hb3 hG4.lt; have hA5 := hA4.below hb3 hA4.lt; have hB5 := hB4.trans (hb3.mono hB4.size); clear u0 u1 u2 z0 z1 z2 f0 f1 f2; obtain ⟨u0, u1, u2, _, _, _⟩ := hG5.three; obtain ⟨z0, z1, z2, f0, f1, f2⟩ := hA5.three))
        obtain ⟨m0, m1, m2⟩ := hA5.put3 (.bool false) (.string ⟨#[]⟩) (.string ⟨#[]⟩)
        refine bodyPost_ret (v := noRat) (by simp [results, Tryd.results35, go_sem, noRat, m0, m1, m2]; done) rfl ?_
        exact ⟨by rw [HN.out], below_put3 hB5 (Nat.le_refl _) _ _ _⟩
      | true =>
        have HN := Lib.hid (show specRes s false s = .tuple #[.agg #[.bool false, .string X, .string Y], .bool true] by rw [HRES.out, hv, ← hT, hq, Bool.and_true, if_pos rfl])
        clear hv hT n1 n2
        go_wp2_with (first
          | (go_at_call 39; refine (CV.out _).mono ?_; rintro e w2 ⟨rfl, hb2⟩; have hG4 := hG3.below hb2 hG3.lt; have hA4 := hA3.below hb2 hA3.lt; have hB4 := hB3.trans (hb2.mono hB3.size); clear u0 u1 u2; obtain ⟨u0, u1, u2, _, _, _⟩ := hG4.three; obtain ⟨z0, z1, z2, f0, f1, f2⟩ := hA4.three)
          | (go_at_call 63; refine (CF.out _).mono ?_; rintro e w3 ⟨rfl, hb3⟩; have hG5 := hG4.below hb3 hG4.lt; have hA5 := hA4.below hb3 hA4.lt; have hB5 := hB4.trans (hb3.mono hB4.size); clear u0 u1 u2 z0 z1 z2 f0 f1 f2; obtain ⟨u0, u1, u2, _, _, _⟩ := hG5.three; obtain ⟨z0, z1, z2, f0, f1, f2⟩ := hA5.three))
        obtain ⟨m0, m1, m2⟩ := hA5.put3 (.bool false) (.string X) (.string Y)
        refine bodyPost_ret (v := .tuple #[.agg #[.bool false, .string X, .string Y], .bool true]) (by simp [results, Tryd.results35, go_sem, m0, m1, m2]; done) rfl ?_
        exact ⟨by rw [HN.out], below_put3 hB5 (Nat.le_refl _) _ _ _⟩
  · have hYe : Y = ⟨#[49]⟩ := by rw [hY, denP, if_neg (by rw [← hL]; exact h1)]
    clear hcell hown hX hY hL
    go_upto_region 9 with fail
    obtain ⟨W, hWe⟩ : ∃ W, W = w1.setCell ⟨w.heap.size + 1, 1, none⟩ (.string X) := ⟨_, rfl⟩
    have hG3 : Box (w1.setCell ⟨w.heap.size + 1, 1, none⟩ (.string X)) (w.heap.size + 1) 26 #[.bool false, .string X, .string Y] := by rw [hYe]; exact hG1.set 1 _
    clear hYe
    have hA3 : Box (w1.setCell ⟨w.heap.size + 1, 1, none⟩ (.string X)) w.heap.size 26 #[.bool false, .string ⟨#[]⟩, .string ⟨#[]⟩] := hA1.other (by omega : w.heap.size + 1 ≠ w.heap.size) 1 _
    have hB3 : Below w.heap.size w (w1.setCell ⟨w.heap.size + 1, 1, none⟩ (.string X)) := hB1.setCell (p := ⟨w.heap.size + 1, 1, none⟩) (by simp) _
    rw [← hWe] at hG3 hA3 hB3 ⊢
    clear hWe hG hG1 hG2 hA hA1 hB hB1 hc0 q0 q1 q2 p0 p1 p2 hgG hGg hb1 he
    obtain ⟨u0, u1, u2, _, _, _⟩ := hG3.three
    have CV : Hid (∀ W, _) := Lib.hid fun W => validS_any false X Y W (by omega) (by omega)
    cases hv : validR false X Y with
    | false =>
      rw [hv] at CV
      have HN := Lib.hid (show specRes s false s = noRat by rw [HRES.out, hv, Bool.false_and, if_neg (by decide)])
      clear hv
      go_wp2_with (go_at_call 39; refine (CV.out _).mono ?_; rintro e w2 ⟨rfl, hb2⟩; have hG4 := hG3.below hb2 hG3.lt; have hA4 := hA3.below hb2 hA3.lt; have hB4 := hB3.trans (hb2.mono hB3.size); clear u0 u1 u2; obtain ⟨u0, u1, u2, _, _, _⟩ := hG4.three; obtain ⟨z0, z1, z2, f0, f1, f2⟩ := hA4.three)
      obtain ⟨m0, m1, m2⟩ := hA4.put3 (.bool false) (.string ⟨#[]⟩) (.string ⟨#[]⟩)
      refine bodyPost_ret (v := noRat) (by simp [results, Tryd.results35, go_sem, noRat, m0, m1, m2]; done) rfl ?_
      exact ⟨by rw [HN.out], below_put3 hB4 (Nat.le_refl _) _ _ _⟩
    | true =>
      rw [hv] at CV
      obtain ⟨n1, n2, _, _⟩ := validR_num hv
      have l1 : X.size ≤ 120 := (isNum_parts n1).1.2
      have l2 : Y.size ≤ 120 := (isNum_parts n2).1.2
      have CF : Hid (∀ W, _) := Lib.hid fun W => specFormat1_any false X Y W l1 l2
      obtain ⟨T, hT⟩ : ∃ T, T = fmtS false X Y := ⟨_, rfl⟩
      rw [← hT] at CF
      cases hq : (T.toList == s.toList) with
      | false =>
        have HN := Lib.hid (show specRes s false s = noRat by rw [HRES.out, ← hT, hq, Bool.and_false, if_neg (by decide)])
        clear hv hT n1 n2
        go_wp2_with (first
          | (go_at_call 39; refine (CV.out _).mono ?_; rintro e w2 ⟨rfl, hb2⟩; have hG4 := hG3.below hb2 hG3.lt; have hA4 := hA3.below hb2 hA3.lt; have hB4 := hB3.trans (hb2.mono hB3.size); clear u0 u1 u2; obtain ⟨u0, u1, u2, _, _, _⟩ := hG4.three; obtain ⟨z0, z1, z2, f0, f1, f2⟩ := hA4.three)
          | (go_at_call 63; refine (CF.out _).mono ?_; rintro e w3 ⟨rfl, hb3⟩; have hG5 := hG4.below hb3 hG4.lt; have hA5 := hA4.below hb3 hA4.lt; have hB5 := hB4.trans (hb3.mono hB4.size); clear u0 u1 u2 z0 z1 z2 f0 f1 f2; obtain ⟨u0, u1, u2, _, _, _⟩ := hG5.three; obtain ⟨z0, z1, z2, f0, f1, f2⟩ := hA5.three))
        obtain ⟨m0, m1, m2⟩ := hA5.put3 (.bool false) (.string ⟨#[]⟩) (.string ⟨#[]⟩)
        refine bodyPost_ret (v := noRat) (by simp [results, Tryd.results35, go_sem, noRat, m0, m1, m2]; done) rfl ?_
        exact ⟨by rw [HN.out], below_put3 hB5 (Nat.le_refl _) _ _ _⟩
      | true =>
        have HN := Lib.hid (show specRes s false s = .tuple #[.agg #[.bool false, .string X, .string Y], .bool true] by rw [HRES.out, hv, ← hT, hq, Bool.and_true, if_pos rfl])
        clear hv hT n1 n2
        go_wp2_with (first
          | (go_at_call 39; refine (CV.out _).mono ?_; rintro e w2 ⟨rfl, hb2⟩; have hG4 := hG3.below hb2 hG3.lt; have hA4 := hA3.below hb2 hA3.lt; have hB4 := hB3.trans (hb2.mono hB3.size); clear u0 u1 u2; obtain ⟨u0, u1, u2, _, _, _⟩ := hG4.three; obtain ⟨z0, z1, z2, f0, f1, f2⟩ := hA4.three)
          | (go_at_call 63; refine (CF.out _).mono ?_; rintro e w3 ⟨rfl, hb3⟩; have hG5 := hG4.below hb3 hG4.lt; have hA5 := hA4.below hb3 hA4.lt; have hB5 := hB4.trans (hb3.mono hB4.size); clear u0 u1 u2 z0 z1 z2 f0 f1 f2; obtain ⟨u0, u1, u2, _, _, _⟩ := hG5.three; obtain ⟨z0, z1, z2, f0, f1, f2⟩ := hA5.three))
        obtain ⟨m0, m1, m2⟩ := hA5.put3 (.bool false) (.string X) (.string Y)
        refine bodyPost_ret (v := .tuple #[.agg #[.bool false, .string X, .string Y], .bool true]) (by simp [results, Tryd.results35, go_sem, m0, m1, m2]; done) rfl ?_
        exact ⟨by rw [HN.out], below_put3 hB5 (Nat.le_refl _) _ _ _⟩

/-- The model's ParseRat, whatever the text. -/
theorem specParse_any (s : ByteArray) (w : World) (hs : s.size ≤ 1048576) :
    Calls Tryd.prog 35 #[.string s] w fun e w' => e = .returned (specRes s (sgnOf s) (restOf s)) ∧ Below w.heap.size w w' := by
  unfold restOf sgnOf
  by_cases h0 : 0 < s.size
  · by_cases h45 : byt s 0 = 45
    · rw [decide_eq_true ⟨h0, h45⟩, if_pos rfl]
      exact specParse_neg s w hs h0 h45
    · rw [decide_eq_false (fun h => h45 h.2), if_neg (by decide)]
      exact specParse_pos s w hs h0 h45
  · rw [decide_eq_false (fun h => h0 h.1), if_neg (by decide)]
    exact specParse_nil s w hs (by omega)

end Go.Proofs.YteefgmnjhlmbiaaDoor
