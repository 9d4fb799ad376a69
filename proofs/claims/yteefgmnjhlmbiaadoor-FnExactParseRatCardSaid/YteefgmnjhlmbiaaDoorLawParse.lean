/-
  The law on ParseRat: the program answers as the model, whatever the text.
-/
import Derived.Test.YteefgmnjhlmbiaaDoorParseP
import Derived.Test.YteefgmnjhlmbiaaDoorEqRat
namespace Go.Proofs.YteefgmnjhlmbiaaDoor
open Go.RowKit Num

theorem specRes_shape (s : ByteArray) (g : Bool) (r : ByteArray) : ∃ b x y c, specRes s g r = .tuple #[.agg #[.bool b, .string x, .string y], .bool c] := by
  unfold specRes
  split
  · exact ⟨_, _, _, _, rfl⟩
  · exact ⟨_, _, _, _, rfl⟩

theorem cut_len (u : List UInt8) : (Lib.cut u [47]).1.length ≤ u.length ∧ (Lib.cut u [47]).2.1.length ≤ u.length := by
  unfold Lib.cut
  split
  · refine ⟨?_, ?_⟩
    · show (List.take _ u).length ≤ _
      rw [List.length_take]; omega
    · show (List.drop _ u).length ≤ _
      rw [List.length_drop]; omega
  · exact ⟨Nat.le_refl _, Nat.zero_le _⟩

theorem rest_size (s : ByteArray) : (restOf s).size ≤ s.size := by
  unfold restOf
  split
  · exact extract_le _ _ _
  · exact Nat.le_refl _

theorem cell_lt' {W : World} {p : Addr} {v : Value} (h : W.cell? p = some v) : p.block < W.heap.size := by
  unfold World.cell? at h
  rcases Nat.lt_or_ge p.block W.heap.size with h' | h'
  · exact h'
  · rw [Array.getElem?_eq_none h'] at h; cases h

theorem implParse_any (s : ByteArray) (w : World) (m : Int) (hs : s.size ≤ 1048576) (hU : UnitB w) (hT : Tab64 w) (hm : w.cell? ⟨2, 0, none⟩ = some (.int .i64 m)) :
    Calls Tryd.prog 36 #[.string s] w fun e w' => e = .returned (specRes s (sgnOf s) (restOf s)) ∧ Below w.heap.size w w' := by
  have hl := cut_len (restOf s).toList
  have hr := rest_size s
  have hrl := len_list (restOf s)
  obtain ⟨N, hN⟩ : ∃ N : ByteArray, N = ⟨(Lib.cut (restOf s).toList [47]).1.toArray⟩ := ⟨_, rfl⟩
  obtain ⟨D, hD⟩ : ∃ D : ByteArray, D = ⟨(Lib.cut (restOf s).toList [47]).2.1.toArray⟩ := ⟨_, rfl⟩
  have hNl : N.toList = (Lib.cut (restOf s).toList [47]).1 := by rw [hN]; exact toList_mk _
  have hDl : D.toList = (Lib.cut (restOf s).toList [47]).2.1 := by rw [hD]; exact toList_mk _
  have hNs := len_list N
  have hDs := len_list D
  rw [hNl] at hNs
  rw [hDl] at hDs
  rw [parse_same s N D _ hNl hDl rfl]
  have e1 : Lib.trimPrefix s.data.toList [45] = (restOf s).toList := by rw [rest_list, Lib.toList_data]
  have e2 : Lib.hasPrefix s.data.toList [45] = sgnOf s := by rw [← prefix45, Lib.toList_data]
  have e3 : (restOf s).data.toList = (restOf s).toList := (Lib.toList_data _).symm
  exact implParse_cut s w m hs hU hT hm (cell_lt' hm) (restOf s) N D (sgnOf s) _ (by rw [e1]; exact of_list rfl) e2.symm (by rw [e3]; exact hN) (by rw [e3]; exact hD) (by rw [e3]) (by omega) (by omega) (by omega)

set_option maxRecDepth 100000 in
set_option maxHeartbeats 1600000 in
theorem lawParse_any (s : ByteArray) (w : World) (m : Int) (hs : s.size ≤ 9223372036854775807) (hU : UnitB w) (hT : Tab64 w) (hm : w.cell? ⟨2, 0, none⟩ = some (.int .i64 m)) :
    Calls Tryd.prog 12 #[.string s] w fun e w' => e = .returned (.bool true) ∧ Below w.heap.size w w' := by
  have hlt := cell_lt' hm
  by_cases h : s.size ≤ 1048576
  · obtain ⟨rb, rx, ry, rc, hres⟩ := specRes_shape s (sgnOf s) (restOf s)
    have C1 : Hid (∀ W, _) := Lib.hid fun W => specParse_any s W h
    have C2 : Hid (∀ W : World, Below w.heap.size w W → _) := Lib.hid fun W hW => implParse_any s W m h (hU.below hW) (hT.below hW) ((hW.cell (p := ⟨2, 0, none⟩) hlt).trans hm)
    rw [hres] at C1 C2
    clear hres hU hT hm hlt
    have hcc : (!rc == rc) = false := by cases rc <;> rfl
    go_enter Tryd.func12, Tryd.ntmps12
    go_wp2_with (first
      | (go_at_call 35; refine (C1.out _).mono ?_; rintro e w3 ⟨rfl, hb⟩; have hS := Box.new w3 26 #[.bool rb, .string rx, .string ry]; have hB := hb.alloc hb.size (.cells #[.bool rb, .string rx, .string ry] 26))
      | (go_at_call 36; refine (C2.out _ hB).mono ?_; rintro e w4 ⟨rfl, hb2⟩; replace hS := (hS.below hb2 hS.lt).alloc (.cells #[.bool rb, .string rx, .string ry] 26); have hB4 := (hB.trans (hb2.mono hB.size)).alloc (hB.trans (hb2.mono hB.size)).size (.cells #[.bool rb, .string rx, .string ry] 26); obtain ⟨s0, s1, s2, _, _, _⟩ := hS.three)
      | (go_at_call 20; refine (eqRat_same rb rx ry _).mono ?_; rintro e w5 ⟨rfl, hb5⟩; have hB5 := hB4.trans (hb5.mono hB4.size)))
    all_goals go_ret
    all_goals exact ⟨rfl, hB5⟩
  · go_enter Tryd.func12, Tryd.ntmps12
    go_wp2_with fail
    all_goals go_ret
    all_goals exact ⟨rfl, Below.refl _ _⟩

end Go.Proofs.YteefgmnjhlmbiaaDoor
