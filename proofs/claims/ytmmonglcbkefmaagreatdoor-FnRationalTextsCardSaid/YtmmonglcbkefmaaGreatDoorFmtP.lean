/-
  Several texts in one: FmtR, ParseS, ParseI.
-/
import Derived.Test.YtmmonglcbkefmaaGreatDoorSumMulQ
import Derived.Test.YtmmonglcbkefmaaGreatDoorFracLaw
import Derived.Test.YtmmonglcbkefmaaGreatDoorBuildW
import Derived.Test.YtmmonglcbkefmaaGreatDoorShelf
import Derived.Test.YtmmonglcbkefmaaGreatDoorSplit
/-
  FormatRat: the model's and the program's.
-/
namespace Go.Proofs.YtmmonglcbkefmaaGreatDoor
open Go.RowKit Num

/-- The text of a Rat. -/
def fmtL (b : Bool) (x y : ByteArray) : List UInt8 := (if b = true then [45] else []) ++ x.toList ++ (if (y.toList == [49]) = true then [] else 47 :: y.toList)
def fmtS (b : Bool) (x y : ByteArray) : ByteArray := ⟨(fmtL b x y).toArray⟩

theorem bytes_app (a b : ByteArray) : a ++ b = ⟨(a.toList ++ b.toList).toArray⟩ := by
  apply ByteArray.ext
  apply Array.ext'
  rw [Lib.toList_data, Lib.toList_data]
  simp

theorem toList_mk (l : List UInt8) : (⟨l.toArray⟩ : ByteArray).toList = l := by rw [Lib.toList_data]

theorem fmtS_eq (b : Bool) (x y : ByteArray) : fmtS b x y = (if (y.toList == [49]) = true then (if b = true then ⟨#[45]⟩ ++ x else x) else (if b = true then ⟨#[45]⟩ ++ x else x) ++ (⟨#[47]⟩ ++ y)) := by
  unfold fmtS fmtL
  have h45 : (⟨#[45]⟩ : ByteArray).toList = [45] := toList_mk [45]
  have h47 : (⟨#[47]⟩ : ByteArray).toList = [47] := toList_mk [47]
  have hx : (⟨x.toList.toArray⟩ : ByteArray) = x := by rw [Lib.toList_data]
  cases b <;> cases (y.toList == [49]) <;> simp [bytes_app, hx, h45, h47]

set_option maxRecDepth 100000 in
set_option maxHeartbeats 1600000 in
theorem specFormat1_any (b : Bool) (x y : ByteArray) (w : World) (hx : x.size ≤ 120) (hy : y.size ≤ 120) :
    Calls Tryz.prog 64 #[.agg #[.bool b, .string x, .string y]] w fun e w' => e = .returned (.string (fmtS b x y)) ∧ Below w.heap.size w w' := by
  have hbox := Box.new w 24 #[.bool b, .string x, .string y]
  obtain ⟨r0, r1, r2, _, _, _⟩ := hbox.three
  have g1 : ¬ 9223372036854775807 < 1 + x.size := by omega
  have g2 : ¬ 9223372036854775807 < 1 + y.size := by omega
  have g3 : ¬ 9223372036854775807 < x.size + (1 + y.size) := by omega
  have g4 : ¬ 9223372036854775807 < 1 + x.size + (1 + y.size) := by omega
  rw [fmtS_eq]
  cases b <;> cases hd : (y.toList == [49])
  all_goals
    go_enter Tryz.func64, Tryz.ntmps64
    go_wp2_with fail
    all_goals first | (exfalso; omega) | skip
    go_ret
    refine ⟨?_, (Below.refl _ w).alloc (Nat.le_refl _) _⟩
    simp

set_option maxRecDepth 100000 in
set_option maxHeartbeats 1600000 in
theorem specFormat_any (b : Bool) (x y : ByteArray) (w : World) (hx : x.size ≤ 9223372036854775807) (hy : y.size ≤ 9223372036854775807) :
    Calls Tryz.prog 22 #[.agg #[.bool b, .string x, .string y]] w fun e w' => e = .returned (if validR b x y = true then .tuple #[.string (fmtS b x y), .bool true] else .tuple #[.string ⟨#[]⟩, .bool false]) ∧ Below w.heap.size w w' := by
  have C1 : Hid (∀ W, _) := Lib.hid fun W => validS_any b x y W hx hy
  have hbox := Box.new w 24 #[.bool b, .string x, .string y]
  have hB := (Below.refl w.heap.size w).alloc (Nat.le_refl _) (.cells #[.bool b, .string x, .string y] 24)
  obtain ⟨r0, r1, r2, _, _, _⟩ := hbox.three
  cases hv : validR b x y with
  | false =>
    rw [hv] at C1
    rw [if_neg (by decide)]
    go_enter Tryz.func22, Tryz.ntmps22
    go_wp2_with (go_at_call 45; refine (C1.out _).mono ?_; rintro e w1 ⟨rfl, hb⟩; replace hB := hB.trans (hb.mono hB.size); clear hb)
    go_ret2
    exact ⟨rfl, hB⟩
  | true =>
    rw [hv] at C1
    rw [if_pos rfl]
    obtain ⟨m1, m2, _, _⟩ := validR_num hv
    have q1 := (isNum_parts m1).1
    have q2 := (isNum_parts m2).1
    have C2 : Hid (∀ W, _) := Lib.hid fun W => specFormat1_any b x y W (by omega) (by omega)
    clear hv m1 m2 q1 q2 hx hy
    go_enter Tryz.func22, Tryz.ntmps22
    go_wp2_with (first
      | (go_at_call 45; refine (C1.out _).mono ?_; rintro e w1 ⟨rfl, hb⟩; replace hB := hB.trans (hb.mono hB.size); replace hbox := hbox.below hb hbox.lt; clear hb r0 r1 r2; obtain ⟨r0, r1, r2, _, _, _⟩ := hbox.three)
      | (go_at_call 64; refine (C2.out _).mono ?_; rintro e w2 ⟨rfl, hb⟩; replace hB := hB.trans (hb.mono hB.size); clear hb))
    go_ret2
    exact ⟨rfl, hB⟩

theorem wB_any (B b : Nat) (l : List UInt8) (c : UInt8) (n : Int) (hn : n = c.toNat) (w : World) (h : Lib.IsBuilder 85 5 B b (Lib.byteCells l) w) (hlen : l.length ≤ 1000000) (hBw : B ≤ w.heap.size) :
    Calls Tryz.prog 61 #[.pointer (some ⟨b, 0, none⟩), .int .u8 n] w fun e w' => e = .returned .nilIface ∧ Lib.IsBuilder 85 5 B b (Lib.byteCells (l ++ [c])) w' ∧ Below B w w' := by
  refine (writeByte_any B b _ n w h (by rw [Lib.byteCells_length]; omega) hBw).mono ?_
  rintro e w' ⟨rfl, h', hb⟩
  refine ⟨rfl, Or.inr ?_, hb⟩
  rw [Lib.byteCells_append]
  subst hn
  exact h'

theorem wS_any (B b : Nat) (l : List UInt8) (s : ByteArray) (w : World) (h : Lib.IsBuilder 85 5 B b (Lib.byteCells l) w) (hlen : l.length ≤ 1000000) (hs : s.size ≤ 1000000) (hBw : B ≤ w.heap.size) :
    Calls Tryz.prog 62 #[.pointer (some ⟨b, 0, none⟩), .string s] w fun e w' => e = .returned (.tuple #[.int .i64 s.size, .nilIface]) ∧ Lib.IsBuilder 85 5 B b (Lib.byteCells (l ++ s.toList)) w' ∧ Below B w w' := by
  refine (writeString_any B b _ s w h (by rw [Lib.byteCells_length]; omega) hBw).mono ?_
  rintro e w' ⟨rfl, h', hb⟩
  refine ⟨rfl, Or.inr ?_, hb⟩
  rw [Lib.byteCells_append, Lib.toList_data, ← Lib.strCells_eq]
  exact h'

theorem len_list (s : ByteArray) : s.toList.length = s.size := list_size s

set_option maxRecDepth 100000 in
set_option maxHeartbeats 3200000 in
theorem implFormat_any (b : Bool) (x y : ByteArray) (w : World) (hx : x.size ≤ 9223372036854775807) (hy : y.size ≤ 9223372036854775807) (hU : UnitB w) (hT : Tab64 w) :
    Calls Tryz.prog 21 #[.agg #[.bool b, .string x, .string y]] w fun e w' => e = .returned (if validR b x y = true then .tuple #[.string (fmtS b x y), .bool true] else .tuple #[.string ⟨#[]⟩, .bool false]) ∧ Below w.heap.size w w' := by
  have C1 : Hid (∀ W, Below w.heap.size w W → _) := Lib.hid fun W hW => implValid_any b x y W hx hy (hU.below hW) (hT.below hW)
  have hbox := Box.new w 24 #[.bool b, .string x, .string y]
  have hB := (Below.refl w.heap.size w).alloc (Nat.le_refl _) (.cells #[.bool b, .string x, .string y] 24)
  obtain ⟨r0, r1, r2, _, _, _⟩ := hbox.three
  cases hv : validR b x y with
  | false =>
    rw [hv] at C1
    rw [if_neg (by decide)]
    go_enter Tryz.func21, Tryz.ntmps21
    go_wp2_with (go_at_call 17; refine (C1.out _ hB).mono ?_; rintro e w1 ⟨rfl, hb⟩; replace hB := hB.trans (hb.mono hB.size); clear hb)
    go_ret2
    exact ⟨rfl, hB⟩
  | true =>
    rw [hv] at C1
    rw [if_pos rfl]
    obtain ⟨m1, m2, _, _⟩ := validR_num hv
    have q1 : x.size ≤ 120 := (isNum_parts m1).1.2
    have q2 : y.size ≤ 120 := (isNum_parts m2).1.2
    have l1 := len_list x
    have l2 := len_list y
    obtain ⟨t, ht⟩ : ∃ t, t = fmtL b x y := ⟨_, rfl⟩
    have hs : fmtS b x y = ⟨t.toArray⟩ := by rw [ht]; rfl
    rw [hs]
    clear hv m1 m2 hx hy hU hT hs
    unfold fmtL at ht
    cases b <;> cases hd : (y.toList == [49])
    all_goals
      rw [hd] at ht
      simp only [Bool.false_eq_true, if_false, if_true, List.nil_append, List.append_nil] at ht
      subst ht
      go_enter Tryz.func21, Tryz.ntmps21
      go_upto_region 4 with (go_at_call 17; refine (C1.out _ hB).mono ?_; rintro e w1 ⟨rfl, hb⟩; replace hB := hB.trans (hb.mono hB.size); replace hbox := hbox.below hb hbox.lt; clear hb r0 r1 r2)
      have hlt := hbox.lt
      have hw1 := hB.size
      have hH : Lib.IsBuilder 85 5 w1.heap.size w1.heap.size (Lib.byteCells []) _ := Lib.fresh_isBuilder 85 5 w1
      have hbox2 := hbox.alloc (.cells #[.pointer none, .slice none 0 0] 85)
      have hB2 := hB.alloc hB.size (.cells #[.pointer none, .slice none 0 0] 85)
      have hz : w1.heap.size ≤ (w1.alloc (.cells #[.pointer none, .slice none 0 0] 85)).heap.size := by simp
      clear hbox hB C1
      obtain ⟨r0, r1, r2, _, _, _⟩ := hbox2.three
      go_wp2_with (first
        | (go_at_call 61; (first | refine (wB_any _ _ _ 45 _ (by decide) _ hH (by first | (simp; omega) | simp | (simp [l1, l2]; omega)) hz).mono ?_ | refine (wB_any _ _ _ 47 _ (by decide) _ hH (by first | (simp; omega) | simp | (simp [l1, l2]; omega)) hz).mono ?_); rintro e w2 ⟨rfl, h', hb⟩; replace hH := h'; clear h'; replace hz := Nat.le_trans hz hb.size; replace hbox2 := hbox2.below hb hlt; replace hB2 := hB2.trans (hb.mono hw1); clear hb r0 r1 r2; obtain ⟨r0, r1, r2, _, _, _⟩ := hbox2.three)
        | (go_at_call 62; refine (wS_any _ _ _ _ _ hH (by first | (simp; omega) | simp | (simp [l1, l2]; omega)) (by omega) hz).mono ?_; rintro e w2 ⟨rfl, h', hb⟩; replace hH := h'; clear h'; replace hz := Nat.le_trans hz hb.size; replace hbox2 := hbox2.below hb hlt; replace hB2 := hB2.trans (hb.mono hw1); clear hb r0 r1 r2; obtain ⟨r0, r1, r2, _, _, _⟩ := hbox2.three)
        | (go_at_call 63; refine (Tryz.Builder_String_any _ _ _ _ hH hz).mono ?_; rintro e w5 ⟨rfl, hb⟩; replace hB2 := hB2.trans (hb.mono hw1); clear hb))
      go_ret2
      refine ⟨?_, hB2⟩
      simp

end Go.Proofs.YtmmonglcbkefmaaGreatDoor
/-
  The model's ParseRat.
-/
namespace Go.Proofs.YtmmonglcbkefmaaGreatDoor
open Go.RowKit Num

def sgnOf (s : ByteArray) : Bool := decide (0 < s.size ∧ byt s 0 = 45)
def restOf (s : ByteArray) : ByteArray := if sgnOf s = true then s.extract 1 s.size else s
def numP (r : ByteArray) : ByteArray := (parts r).getD 0 ⟨#[]⟩
def denP (r : ByteArray) : ByteArray := if 1 < (parts r).length then (parts r).getD 1 ⟨#[]⟩ else ⟨#[49]⟩
/-- What the model answers, for a sign and the rest of the text. -/
def specRes (s : ByteArray) (neg : Bool) (r : ByteArray) : Value :=
  if (validR neg (numP r) (denP r) && ((fmtS neg (numP r) (denP r)).toList == s.toList)) = true then .tuple #[.agg #[.bool neg, .string (numP r), .string (denP r)], .bool true] else noRat

theorem parts_pos (r : ByteArray) : 0 < (parts r).length := by
  unfold parts
  rw [List.length_append, List.length_cons, List.length_nil]
  omega

theorem extract_le (s : ByteArray) (a b : Nat) : (s.extract a b).size ≤ s.size := by
  rw [ByteArray.size_extract]; omega

theorem splS_size (s : ByteArray) (k : Nat) : ∀ p ∈ (splS s k).1, p.size ≤ s.size := by
  induction k with
  | zero => intro p hp; cases hp
  | succ k ih =>
    unfold splS
    split
    · intro p hp
      rcases List.mem_append.1 hp with h | h
      · exact ih p h
      · rcases List.mem_singleton.1 h with rfl
        exact extract_le _ _ _
    · exact ih

theorem part_le (s : ByteArray) (j : Nat) : ((parts s).getD j ⟨#[]⟩).size ≤ s.size := by
  rcases Nat.lt_or_ge j (parts s).length with h | h
  · rw [List.getD_eq_getElem?_getD, List.getElem?_eq_getElem h]
    have hm : (parts s)[j] ∈ parts s := List.getElem_mem h
    show ((parts s)[j]).size ≤ _
    unfold parts at hm ⊢
    rcases List.mem_append.1 hm with h' | h'
    · exact splS_size s _ _ h'
    · rw [List.mem_singleton.1 h']; exact extract_le _ _ _
  · rw [List.getD_eq_getElem?_getD, List.getElem?_eq_none h]
    exact Nat.zero_le _

theorem own_strs {w : World} {base : Nat} {e : TypeId} {v : Value} {ps : List ByteArray} (h : w.ownsRow base e 1 v ps.length (ps.map Value.string)) (hp : 0 < ps.length) :
    ∃ g cap, v = .slice (some ⟨g, 0, none⟩) ps.length cap ∧ base ≤ g ∧ ∀ j, j < ps.length → w.cell? ⟨g, j, none⟩ = some (.string (ps.getD j ⟨#[]⟩)) := by
  rcases h.2 with ⟨_, h0⟩ | ⟨g, cap, cur, hv, hb, _⟩
  · omega
  · subst hv
    refine ⟨g, cap, rfl, hb, fun j hj => ?_⟩
    have hadd : (⟨g, 0, none⟩ : Addr).add j = ⟨g, j, none⟩ := by
      unfold Addr.add
      split
      · rename_i hj0; rw [hj0]
      · simp
    rw [← hadd]
    refine h.cells (g := g) rfl j _ ?_
    rw [List.getElem?_map, List.getElem?_eq_getElem hj, List.getD_eq_getElem?_getD, List.getElem?_eq_getElem hj]
    rfl

set_option maxRecDepth 100000 in
set_option maxHeartbeats 3200000 in
theorem specParse_neg (s : ByteArray) (w : World) (hs : s.size ≤ 1048576) (h0 : 0 < s.size) (h45 : byt s 0 = 45) :
    Calls Tryz.prog 27 #[.string s] w fun e w' => e = .returned (specRes s true (s.extract 1 s.size)) ∧ Below w.heap.size w w' := by
  have hb := byt_eq s 0 h0
  have he : (s.toList == []) = false := by
    rw [beq_eq_false_iff_ne]
    intro hc
    have := len_list s
    rw [hc] at this
    simp at this
    omega
  have hz : ((byt s 0 : Int) == 45) = true := by rw [beq_iff_eq]; omega
  obtain ⟨R, hR⟩ : ∃ R, R = s.extract 1 s.size := ⟨_, rfl⟩
  have hRs : R.size ≤ 1048576 := by rw [hR, ByteArray.size_extract]; omega
  have CP := Lib.hid (fun W => split_any R W hRs)
  have HR := Lib.hid hR
  rw [← hR]
  clear hR
  have hA := (Box.new w 24 #[.bool false, .string ⟨#[]⟩, .string ⟨#[]⟩]).alloc (.cells #[.bool true, .string ⟨#[]⟩, .string ⟨#[49]⟩] 24)
  have hG := Box.new (w.alloc (.cells #[.bool false, .string ⟨#[]⟩, .string ⟨#[]⟩] 24)) 24 #[.bool true, .string ⟨#[]⟩, .string ⟨#[49]⟩]
  rw [show (w.alloc (.cells #[.bool false, .string ⟨#[]⟩, .string ⟨#[]⟩] 24)).heap.size = w.heap.size + 1 by simp] at hG
  have hB := ((Below.refl w.heap.size w).alloc (Nat.le_refl _) (.cells #[.bool false, .string ⟨#[]⟩, .string ⟨#[]⟩] 24)).alloc (by simp) (.cells #[.bool true, .string ⟨#[]⟩, .string ⟨#[49]⟩] 24)
  go_enter Tryz.func27, Tryz.ntmps27
  go_upto_region 5 with fail
  rw [← HR.out]
  go_upto_region 6 with (go_at_call 74; refine (CP.out _).mono ?_; rintro e w1 ⟨⟨v, rfl, hown⟩, hb1⟩)
  obtain ⟨g, cap, rfl, hg, hcell⟩ := own_strs hown (parts_pos R)
  have hA1 := hA.below hb1 hA.lt
  have hG1 := hG.below hb1 hG.lt
  have hB1 := hB.trans (hb1.mono hB.size)
  have hgG : g ≠ w.heap.size + 1 := by simp at hg; omega
  have hGg : w.heap.size + 1 ≠ g := hgG.symm
  obtain ⟨X, hX⟩ : ∃ X, X = numP R := ⟨_, rfl⟩
  have hc0 : w1.cell? ⟨g, 0, none⟩ = some (.string X) := by rw [hX]; exact hcell 0 (parts_pos R)
  obtain ⟨L, hL⟩ : ∃ L, L = (parts R).length := ⟨_, rfl⟩
  have hLp : 0 < L := by rw [hL]; exact parts_pos R
  have hLs : L ≤ 1048577 := by
    have := (splS_le R R.size).2
    rw [hL]
    unfold parts
    rw [List.length_append, List.length_cons, List.length_nil]
    omega
  obtain ⟨Y, hY⟩ : ∃ Y, Y = denP R := ⟨_, rfl⟩
  have HRES := Lib.hid (show specRes s true R = if (validR true X Y && ((fmtS true X Y).toList == s.toList)) = true then .tuple #[.agg #[.bool true, .string X, .string Y], .bool true] else noRat by unfold specRes; rw [← hX, ← hY])
  have hXs : X.size ≤ 1048576 := by rw [hX]; exact Nat.le_trans (part_le R 0) hRs
  have hYs : Y.size ≤ 1048576 := by
    rw [hY, denP]
    split
    · exact Nat.le_trans (part_le R 1) hRs
    · show 1 ≤ _
      omega
  obtain ⟨q0, q1, q2, p0, p1, p2⟩ := hG1.three
  rw [← hL]
  have hG2 := hG1.set 1 (.string X)
  by_cases h1 : 1 < L
  · have hc1 : w1.cell? ⟨g, 1, none⟩ = some (.string Y) := by
      rw [hY, denP, if_pos (by rw [← hL]; exact h1)]
      exact hcell 1 (by rw [← hL]; exact h1)
    clear hcell hown hX hY hL
    go_upto_region 9 with fail
    obtain ⟨W, hWe⟩ : ∃ W, W = (w1.setCell ⟨w.heap.size + 1, 1, none⟩ (.string X)).setCell ⟨w.heap.size + 1, 2, none⟩ (.string Y) := ⟨_, rfl⟩
    have hG3 : Box ((w1.setCell ⟨w.heap.size + 1, 1, none⟩ (.string X)).setCell ⟨w.heap.size + 1, 2, none⟩ (.string Y)) (w.heap.size + 1) 24 #[.bool true, .string X, .string Y] := (hG1.set 1 _).set 2 _
    have hA3 : Box ((w1.setCell ⟨w.heap.size + 1, 1, none⟩ (.string X)).setCell ⟨w.heap.size + 1, 2, none⟩ (.string Y)) w.heap.size 24 #[.bool false, .string ⟨#[]⟩, .string ⟨#[]⟩] := (hA1.other (by omega : w.heap.size + 1 ≠ w.heap.size) 1 _).other (by omega : w.heap.size + 1 ≠ w.heap.size) 2 _
    have hB3 : Below w.heap.size w ((w1.setCell ⟨w.heap.size + 1, 1, none⟩ (.string X)).setCell ⟨w.heap.size + 1, 2, none⟩ (.string Y)) := (hB1.setCell (p := ⟨w.heap.size + 1, 1, none⟩) (by simp) _).setCell (p := ⟨w.heap.size + 1, 2, none⟩) (by simp) _
    rw [← hWe] at hG3 hA3 hB3 ⊢
    clear hWe hG hG1 hG2 hA hA1 hB hB1 hc0 hc1 q0 q1 q2 p0 p1 p2 hgG hGg hb1 he hz
    obtain ⟨u0, u1, u2, _, _, _⟩ := hG3.three
    have CV : Hid (∀ W, _) := Lib.hid fun W => validS_any true X Y W (by omega) (by omega)
    cases hv : validR true X Y with
    | false =>
      rw [hv] at CV
      have HN := Lib.hid (show specRes s true R = noRat by rw [HRES.out, hv, Bool.false_and, if_neg (by decide)])
      clear hv
      go_wp2_with (go_at_call 45; refine (CV.out _).mono ?_; rintro e w2 ⟨rfl, hb2⟩; have hG4 := hG3.below hb2 hG3.lt; have hA4 := hA3.below hb2 hA3.lt; have hB4 := hB3.trans (hb2.mono hB3.size); clear u0 u1 u2; obtain ⟨u0, u1, u2, _, _, _⟩ := hG4.three; obtain ⟨z0, z1, z2, f0, f1, f2⟩ := hA4.three)
      obtain ⟨m0, m1, m2⟩ := hA4.put3 (.bool false) (.string ⟨#[]⟩) (.string ⟨#[]⟩)
      refine bodyPost_ret (v := noRat) (by simp [results, Tryz.results27, go_sem, noRat, m0, m1, m2]; done) rfl ?_
      exact ⟨by rw [HN.out], below_put3 hB4 (Nat.le_refl _) _ _ _⟩
    | true =>
      rw [hv] at CV
      obtain ⟨n1, n2, _, _⟩ := validR_num hv
      have l1 : X.size ≤ 120 := (isNum_parts n1).1.2
      have l2 : Y.size ≤ 120 := (isNum_parts n2).1.2
      have CF : Hid (∀ W, _) := Lib.hid fun W => specFormat1_any true X Y W l1 l2
      obtain ⟨T, hT⟩ : ∃ T, T = fmtS true X Y := ⟨_, rfl⟩
      rw [← hT] at CF
      cases hq : (T.toList == s.toList) with
      | false =>
        have HN := Lib.hid (show specRes s true R = noRat by rw [HRES.out, ← hT, hq, Bool.and_false, if_neg (by decide)])
        clear hv hT n1 n2
        go_wp2_with (first
          | (go_at_call 45; refine (CV.out _).mono ?_; rintro e w2 ⟨rfl, hb2⟩; have hG4 := hG3.below hb2 hG3.lt; have hA4 := hA3.below hb2 hA3.lt; have hB4 := hB3.trans (hb2.mono hB3.size); clear u0 u1 u2; obtain ⟨u0, u1, u2, _, _, _⟩ := hG4.three; obtain ⟨z0, z1, z2, f0, f1, f2⟩ := hA4.three)
          | (go_at_call 64; refine (CF.out _).mono ?_; rintro e w3 ⟨rfl, hb3⟩; have hG5 := hG4.below hb3 hG4.lt; have hA5 := hA4.below hb3 hA4.lt; have hB5 := hB4.trans (hb3.mono hB4.size); clear u0 u1 u2 z0 z1 z2 f0 f1 f2; obtain ⟨u0, u1, u2, _, _, _⟩ := hG5.three; obtain ⟨z0, z1, z2, f0, f1, f2⟩ := hA5.three))
        obtain ⟨m0, m1, m2⟩ := hA5.put3 (.bool false) (.string ⟨#[]⟩) (.string ⟨#[]⟩)
        refine bodyPost_ret (v := noRat) (by simp [results, Tryz.results27, go_sem, noRat, m0, m1, m2]; done) rfl ?_
        exact ⟨by rw [HN.out], below_put3 hB5 (Nat.le_refl _) _ _ _⟩
      | true =>
        have HN := Lib.hid (show specRes s true R = .tuple #[.agg #[.bool true, .string X, .string Y], .bool true] by rw [HRES.out, hv, ← hT, hq, Bool.and_true, if_pos rfl])
        clear hv hT n1 n2
        go_wp2_with (first
          | (go_at_call 45; refine (CV.out _).mono ?_; rintro e w2 ⟨rfl, hb2⟩; have hG4 := hG3.below hb2 hG3.lt; have hA4 := hA3.below hb2 hA3.lt; have hB4 := hB3.trans (hb2.mono hB3.size); clear u0 u1 u2; obtain ⟨u0, u1, u2, _, _, _⟩ := hG4.three; obtain ⟨z0, z1, z2, f0, f1, f2⟩ := hA4.three)
          | (go_at_call 64; refine (CF.out _).mono ?_; rintro e w3 ⟨rfl, hb3⟩; have hG5 := hG4.below hb3 hG4.lt; have hA5 := hA4.below hb3 hA4.lt; have hB5 := hB4.trans (hb3.mono hB4.size); clear u0 u1 u2 z0 z1 z2 f0 f1 f2; obtain ⟨u0, u1, u2, _, _, _⟩ := hG5.three; obtain ⟨z0, z1, z2, f0, f1, f2⟩ := hA5.three))
        obtain ⟨m0, m1, m2⟩ := hA5.put3 (.bool true) (.string X) (.string Y)
        refine bodyPost_ret (v := .tuple #[.agg #[.bool true, .string X, .string Y], .bool true]) (by simp [results, Tryz.results27, go_sem, m0, m1, m2]; done) rfl ?_
        exact ⟨by rw [HN.out], below_put3 hB5 (Nat.le_refl _) _ _ _⟩
  · have hYe : Y = ⟨#[49]⟩ := by rw [hY, denP, if_neg (by rw [← hL]; exact h1)]
    clear hcell hown hX hY hL
    go_upto_region 9 with fail
    obtain ⟨W, hWe⟩ : ∃ W, W = w1.setCell ⟨w.heap.size + 1, 1, none⟩ (.string X) := ⟨_, rfl⟩
    have hG3 : Box (w1.setCell ⟨w.heap.size + 1, 1, none⟩ (.string X)) (w.heap.size + 1) 24 #[.bool true, .string X, .string Y] := by rw [hYe]; exact hG1.set 1 _
    clear hYe
    have hA3 : Box (w1.setCell ⟨w.heap.size + 1, 1, none⟩ (.string X)) w.heap.size 24 #[.bool false, .string ⟨#[]⟩, .string ⟨#[]⟩] := hA1.other (by omega : w.heap.size + 1 ≠ w.heap.size) 1 _
    have hB3 : Below w.heap.size w (w1.setCell ⟨w.heap.size + 1, 1, none⟩ (.string X)) := hB1.setCell (p := ⟨w.heap.size + 1, 1, none⟩) (by simp) _
    rw [← hWe] at hG3 hA3 hB3 ⊢
    clear hWe hG hG1 hG2 hA hA1 hB hB1 hc0 q0 q1 q2 p0 p1 p2 hgG hGg hb1 he hz
    obtain ⟨u0, u1, u2, _, _, _⟩ := hG3.three
    have CV : Hid (∀ W, _) := Lib.hid fun W => validS_any true X Y W (by omega) (by omega)
    cases hv : validR true X Y with
    | false =>
      rw [hv] at CV
      have HN := Lib.hid (show specRes s true R = noRat by rw [HRES.out, hv, Bool.false_and, if_neg (by decide)])
      clear hv
      go_wp2_with (go_at_call 45; refine (CV.out _).mono ?_; rintro e w2 ⟨rfl, hb2⟩; have hG4 := hG3.below hb2 hG3.lt; have hA4 := hA3.below hb2 hA3.lt; have hB4 := hB3.trans (hb2.mono hB3.size); clear u0 u1 u2; obtain ⟨u0, u1, u2, _, _, _⟩ := hG4.three; obtain ⟨z0, z1, z2, f0, f1, f2⟩ := hA4.three)
      obtain ⟨m0, m1, m2⟩ := hA4.put3 (.bool false) (.string ⟨#[]⟩) (.string ⟨#[]⟩)
      refine bodyPost_ret (v := noRat) (by simp [results, Tryz.results27, go_sem, noRat, m0, m1, m2]; done) rfl ?_
      exact ⟨by rw [HN.out], below_put3 hB4 (Nat.le_refl _) _ _ _⟩
    | true =>
      rw [hv] at CV
      obtain ⟨n1, n2, _, _⟩ := validR_num hv
      have l1 : X.size ≤ 120 := (isNum_parts n1).1.2
      have l2 : Y.size ≤ 120 := (isNum_parts n2).1.2
      have CF : Hid (∀ W, _) := Lib.hid fun W => specFormat1_any true X Y W l1 l2
      obtain ⟨T, hT⟩ : ∃ T, T = fmtS true X Y := ⟨_, rfl⟩
      rw [← hT] at CF
      cases hq : (T.toList == s.toList) with
      | false =>
        have HN := Lib.hid (show specRes s true R = noRat by rw [HRES.out, ← hT, hq, Bool.and_false, if_neg (by decide)])
        clear hv hT n1 n2
        go_wp2_with (first
          | (go_at_call 45; refine (CV.out _).mono ?_; rintro e w2 ⟨rfl, hb2⟩; have hG4 := hG3.below hb2 hG3.lt; have hA4 := hA3.below hb2 hA3.lt; have hB4 := hB3.trans (hb2.mono hB3.size); clear u0 u1 u2; obtain ⟨u0, u1, u2, _, _, _⟩ := hG4.three; obtain ⟨z0, z1, z2, f0, f1, f2⟩ := hA4.three)
          | (go_at_call 64; refine (CF.out _).mono ?_; rintro e w3 ⟨rfl, hb3⟩; have hG5 := hG4.below hb3 hG4.lt; have hA5 := hA4.below hb3 hA4.lt; have hB5 := hB4.trans (hb3.mono hB4.size); clear u0 u1 u2 z0 z1 z2 f0 f1 f2; obtain ⟨u0, u1, u2, _, _, _⟩ := hG5.three; obtain ⟨z0, z1, z2, f0, f1, f2⟩ := hA5.three))
        obtain ⟨m0, m1, m2⟩ := hA5.put3 (.bool false) (.string ⟨#[]⟩) (.string ⟨#[]⟩)
        refine bodyPost_ret (v := noRat) (by simp [results, Tryz.results27, go_sem, noRat, m0, m1, m2]; done) rfl ?_
        exact ⟨by rw [HN.out], below_put3 hB5 (Nat.le_refl _) _ _ _⟩
      | true =>
        have HN := Lib.hid (show specRes s true R = .tuple #[.agg #[.bool true, .string X, .string Y], .bool true] by rw [HRES.out, hv, ← hT, hq, Bool.and_true, if_pos rfl])
        clear hv hT n1 n2
        go_wp2_with (first
          | (go_at_call 45; refine (CV.out _).mono ?_; rintro e w2 ⟨rfl, hb2⟩; have hG4 := hG3.below hb2 hG3.lt; have hA4 := hA3.below hb2 hA3.lt; have hB4 := hB3.trans (hb2.mono hB3.size); clear u0 u1 u2; obtain ⟨u0, u1, u2, _, _, _⟩ := hG4.three; obtain ⟨z0, z1, z2, f0, f1, f2⟩ := hA4.three)
          | (go_at_call 64; refine (CF.out _).mono ?_; rintro e w3 ⟨rfl, hb3⟩; have hG5 := hG4.below hb3 hG4.lt; have hA5 := hA4.below hb3 hA4.lt; have hB5 := hB4.trans (hb3.mono hB4.size); clear u0 u1 u2 z0 z1 z2 f0 f1 f2; obtain ⟨u0, u1, u2, _, _, _⟩ := hG5.three; obtain ⟨z0, z1, z2, f0, f1, f2⟩ := hA5.three))
        obtain ⟨m0, m1, m2⟩ := hA5.put3 (.bool true) (.string X) (.string Y)
        refine bodyPost_ret (v := .tuple #[.agg #[.bool true, .string X, .string Y], .bool true]) (by simp [results, Tryz.results27, go_sem, m0, m1, m2]; done) rfl ?_
        exact ⟨by rw [HN.out], below_put3 hB5 (Nat.le_refl _) _ _ _⟩

set_option maxRecDepth 100000 in
set_option maxHeartbeats 3200000 in
theorem specParse_pos (s : ByteArray) (w : World) (hs : s.size ≤ 1048576) (h0 : 0 < s.size) (h45 : byt s 0 ≠ 45) :
    Calls Tryz.prog 27 #[.string s] w fun e w' => e = .returned (specRes s false s) ∧ Below w.heap.size w w' := by
  have hb := byt_eq s 0 h0
  have he : (s.toList == []) = false := by
    rw [beq_eq_false_iff_ne]
    intro hc
    have := len_list s
    rw [hc] at this
    simp at this
    omega
  have hz : ((byt s 0 : Int) == 45) = false := by rw [beq_eq_false_iff_ne]; omega
  have hRs : s.size ≤ 1048576 := hs
  have CP := Lib.hid (fun W => split_any s W hRs)
  have hA := (Box.new w 24 #[.bool false, .string ⟨#[]⟩, .string ⟨#[]⟩]).alloc (.cells #[.bool false, .string ⟨#[]⟩, .string ⟨#[49]⟩] 24)
  have hG := Box.new (w.alloc (.cells #[.bool false, .string ⟨#[]⟩, .string ⟨#[]⟩] 24)) 24 #[.bool false, .string ⟨#[]⟩, .string ⟨#[49]⟩]
  rw [show (w.alloc (.cells #[.bool false, .string ⟨#[]⟩, .string ⟨#[]⟩] 24)).heap.size = w.heap.size + 1 by simp] at hG
  have hB := ((Below.refl w.heap.size w).alloc (Nat.le_refl _) (.cells #[.bool false, .string ⟨#[]⟩, .string ⟨#[]⟩] 24)).alloc (by simp) (.cells #[.bool false, .string ⟨#[]⟩, .string ⟨#[49]⟩] 24)
  go_enter Tryz.func27, Tryz.ntmps27
  go_upto_region 5 with fail
  go_upto_region 6 with (go_at_call 74; refine (CP.out _).mono ?_; rintro e w1 ⟨⟨v, rfl, hown⟩, hb1⟩)
  obtain ⟨g, cap, rfl, hg, hcell⟩ := own_strs hown (parts_pos s)
  have hA1 := hA.below hb1 hA.lt
  have hG1 := hG.below hb1 hG.lt
  have hB1 := hB.trans (hb1.mono hB.size)
  have hgG : g ≠ w.heap.size + 1 := by simp at hg; omega
  have hGg : w.heap.size + 1 ≠ g := hgG.symm
  obtain ⟨X, hX⟩ : ∃ X, X = numP s := ⟨_, rfl⟩
  have hc0 : w1.cell? ⟨g, 0, none⟩ = some (.string X) := by rw [hX]; exact hcell 0 (parts_pos s)
  obtain ⟨L, hL⟩ : ∃ L, L = (parts s).length := ⟨_, rfl⟩
  have hLp : 0 < L := by rw [hL]; exact parts_pos s
  have hLs : L ≤ 1048577 := by
    have := (splS_le s s.size).2
    rw [hL]
    unfold parts
    rw [List.length_append, List.length_cons, List.length_nil]
    omega
  obtain ⟨Y, hY⟩ : ∃ Y, Y = denP s := ⟨_, rfl⟩
  have HRES := Lib.hid (show specRes s false s = if (validR false X Y && ((fmtS false X Y).toList == s.toList)) = true then .tuple #[.agg #[.bool false, .string X, .string Y], .bool true] else noRat by unfold specRes; rw [← hX, ← hY])
  have hXs : X.size ≤ 1048576 := by rw [hX]; exact Nat.le_trans (part_le s 0) hRs
  have hYs : Y.size ≤ 1048576 := by
    rw [hY, denP]
    split
    · exact Nat.le_trans (part_le s 1) hRs
    · show 1 ≤ _
      omega
  obtain ⟨q0, q1, q2, p0, p1, p2⟩ := hG1.three
  rw [← hL]
  have hG2 := hG1.set 1 (.string X)
  by_cases h1 : 1 < L
  · have hc1 : w1.cell? ⟨g, 1, none⟩ = some (.string Y) := by
      rw [hY, denP, if_pos (by rw [← hL]; exact h1)]
      exact hcell 1 (by rw [← hL]; exact h1)
    clear hcell hown hX hY hL
    go_upto_region 9 with fail
    obtain ⟨W, hWe⟩ : ∃ W, W = (w1.setCell ⟨w.heap.size + 1, 1, none⟩ (.string X)).setCell ⟨w.heap.size + 1, 2, none⟩ (.string Y) := ⟨_, rfl⟩
    have hG3 : Box ((w1.setCell ⟨w.heap.size + 1, 1, none⟩ (.string X)).setCell ⟨w.heap.size + 1, 2, none⟩ (.string Y)) (w.heap.size + 1) 24 #[.bool false, .string X, .string Y] := (hG1.set 1 _).set 2 _
    have hA3 : Box ((w1.setCell ⟨w.heap.size + 1, 1, none⟩ (.string X)).setCell ⟨w.heap.size + 1, 2, none⟩ (.string Y)) w.heap.size 24 #[.bool false, .string ⟨#[]⟩, .string ⟨#[]⟩] := (hA1.other (by omega : w.heap.size + 1 ≠ w.heap.size) 1 _).other (by omega : w.heap.size + 1 ≠ w.heap.size) 2 _
    have hB3 : Below w.heap.size w ((w1.setCell ⟨w.heap.size + 1, 1, none⟩ (.string X)).setCell ⟨w.heap.size + 1, 2, none⟩ (.string Y)) := (hB1.setCell (p := ⟨w.heap.size + 1, 1, none⟩) (by simp) _).setCell (p := ⟨w.heap.size + 1, 2, none⟩) (by simp) _
    rw [← hWe] at hG3 hA3 hB3 ⊢
    clear hWe hG hG1 hG2 hA hA1 hB hB1 hc0 hc1 q0 q1 q2 p0 p1 p2 hgG hGg hb1 he hz
    obtain ⟨u0, u1, u2, _, _, _⟩ := hG3.three
    have CV : Hid (∀ W, _) := Lib.hid fun W => validS_any false X Y W (by omega) (by omega)
    cases hv : validR false X Y with
    | false =>
      rw [hv] at CV
      have HN := Lib.hid (show specRes s false s = noRat by rw [HRES.out, hv, Bool.false_and, if_neg (by decide)])
      clear hv
      go_wp2_with (go_at_call 45; refine (CV.out _).mono ?_; rintro e w2 ⟨rfl, hb2⟩; have hG4 := hG3.below hb2 hG3.lt; have hA4 := hA3.below hb2 hA3.lt; have hB4 := hB3.trans (hb2.mono hB3.size); clear u0 u1 u2; obtain ⟨u0, u1, u2, _, _, _⟩ := hG4.three; obtain ⟨z0, z1, z2, f0, f1, f2⟩ := hA4.three)
      obtain ⟨m0, m1, m2⟩ := hA4.put3 (.bool false) (.string ⟨#[]⟩) (.string ⟨#[]⟩)
      refine bodyPost_ret (v := noRat) (by simp [results, Tryz.results27, go_sem, noRat, m0, m1, m2]; done) rfl ?_
      exact ⟨by rw [HN.out], below_put3 hB4 (Nat.le_refl _) _ _ _⟩
    | true =>
      rw [hv] at CV
      obtain ⟨n1, n2, _, _⟩ := validR_num hv
      have l1 : X.size ≤ 120 := (isNum_parts n1).1.2
      have l2 : Y.size ≤ 120 := (isNum_parts n2).1.2
      have CF : Hid (∀ W, _) := Lib.hid fun W => specFormat1_any false X Y W l1 l2
      obtain ⟨T, hT⟩ : ∃ T, T = fmtS false X Y := ⟨_, rfl⟩
      rw [← hT] at CF
      cases hq : (T.toList == s.toList) with
      | false =>
        have HN := Lib.hid (show specRes s false s = noRat by rw [HRES.out, ← hT, hq, Bool.and_false, if_neg (by decide)])
        clear hv hT n1 n2
        go_wp2_with (first
          | (go_at_call 45; refine (CV.out _).mono ?_; rintro e w2 ⟨rfl, hb2⟩; have hG4 := hG3.below hb2 hG3.lt; have hA4 := hA3.below hb2 hA3.lt; have hB4 := hB3.trans (hb2.mono hB3.size); clear u0 u1 u2; obtain ⟨u0, u1, u2, _, _, _⟩ := hG4.three; obtain ⟨z0, z1, z2, f0, f1, f2⟩ := hA4.three)
          | (go_at_call 64; refine (CF.out _).mono ?_; rintro e w3 ⟨rfl, hb3⟩; have hG5 := hG4.below hb3 hG4.lt; have hA5 := hA4.below hb3 hA4.lt; have hB5 := hB4.trans (hb3.mono hB4.size); clear u0 u1 u2 z0 z1 z2 f0 f1 f2; obtain ⟨u0, u1, u2, _, _, _⟩ := hG5.three; obtain ⟨z0, z1, z2, f0, f1, f2⟩ := hA5.three))
        obtain ⟨m0, m1, m2⟩ := hA5.put3 (.bool false) (.string ⟨#[]⟩) (.string ⟨#[]⟩)
        refine bodyPost_ret (v := noRat) (by simp [results, Tryz.results27, go_sem, noRat, m0, m1, m2]; done) rfl ?_
        exact ⟨by rw [HN.out], below_put3 hB5 (Nat.le_refl _) _ _ _⟩
      | true =>
        have HN := Lib.hid (show specRes s false s = .tuple #[.agg #[.bool false, .string X, .string Y], .bool true] by rw [HRES.out, hv, ← hT, hq, Bool.and_true, if_pos rfl])
        clear hv hT n1 n2
        go_wp2_with (first
          | (go_at_call 45; refine (CV.out _).mono ?_; rintro e w2 ⟨rfl, hb2⟩; have hG4 := hG3.below hb2 hG3.lt; have hA4 := hA3.below hb2 hA3.lt; have hB4 := hB3.trans (hb2.mono hB3.size); clear u0 u1 u2; obtain ⟨u0, u1, u2, _, _, _⟩ := hG4.three; obtain ⟨z0, z1, z2, f0, f1, f2⟩ := hA4.three)
          | (go_at_call 64; refine (CF.out _).mono ?_; rintro e w3 ⟨rfl, hb3⟩; have hG5 := hG4.below hb3 hG4.lt; have hA5 := hA4.below hb3 hA4.lt; have hB5 := hB4.trans (hb3.mono hB4.size); clear u0 u1 u2 z0 z1 z2 f0 f1 f2; obtain ⟨u0, u1, u2, _, _, _⟩ := hG5.three; obtain ⟨z0, z1, z2, f0, f1, f2⟩ := hA5.three))
        obtain ⟨m0, m1, m2⟩ := hA5.put3 (.bool false) (.string X) (.string Y)
        refine bodyPost_ret (v := .tuple #[.agg #[.bool false, .string X, .string Y], .bool true]) (by simp [results, Tryz.results27, go_sem, m0, m1, m2]; done) rfl ?_
        exact ⟨by rw [HN.out], below_put3 hB5 (Nat.le_refl _) _ _ _⟩
  · have hYe : Y = ⟨#[49]⟩ := by rw [hY, denP, if_neg (by rw [← hL]; exact h1)]
    clear hcell hown hX hY hL
    go_upto_region 9 with fail
    obtain ⟨W, hWe⟩ : ∃ W, W = w1.setCell ⟨w.heap.size + 1, 1, none⟩ (.string X) := ⟨_, rfl⟩
    have hG3 : Box (w1.setCell ⟨w.heap.size + 1, 1, none⟩ (.string X)) (w.heap.size + 1) 24 #[.bool false, .string X, .string Y] := by rw [hYe]; exact hG1.set 1 _
    clear hYe
    have hA3 : Box (w1.setCell ⟨w.heap.size + 1, 1, none⟩ (.string X)) w.heap.size 24 #[.bool false, .string ⟨#[]⟩, .string ⟨#[]⟩] := hA1.other (by omega : w.heap.size + 1 ≠ w.heap.size) 1 _
    have hB3 : Below w.heap.size w (w1.setCell ⟨w.heap.size + 1, 1, none⟩ (.string X)) := hB1.setCell (p := ⟨w.heap.size + 1, 1, none⟩) (by simp) _
    rw [← hWe] at hG3 hA3 hB3 ⊢
    clear hWe hG hG1 hG2 hA hA1 hB hB1 hc0 q0 q1 q2 p0 p1 p2 hgG hGg hb1 he hz
    obtain ⟨u0, u1, u2, _, _, _⟩ := hG3.three
    have CV : Hid (∀ W, _) := Lib.hid fun W => validS_any false X Y W (by omega) (by omega)
    cases hv : validR false X Y with
    | false =>
      rw [hv] at CV
      have HN := Lib.hid (show specRes s false s = noRat by rw [HRES.out, hv, Bool.false_and, if_neg (by decide)])
      clear hv
      go_wp2_with (go_at_call 45; refine (CV.out _).mono ?_; rintro e w2 ⟨rfl, hb2⟩; have hG4 := hG3.below hb2 hG3.lt; have hA4 := hA3.below hb2 hA3.lt; have hB4 := hB3.trans (hb2.mono hB3.size); clear u0 u1 u2; obtain ⟨u0, u1, u2, _, _, _⟩ := hG4.three; obtain ⟨z0, z1, z2, f0, f1, f2⟩ := hA4.three)
      obtain ⟨m0, m1, m2⟩ := hA4.put3 (.bool false) (.string ⟨#[]⟩) (.string ⟨#[]⟩)
      refine bodyPost_ret (v := noRat) (by simp [results, Tryz.results27, go_sem, noRat, m0, m1, m2]; done) rfl ?_
      exact ⟨by rw [HN.out], below_put3 hB4 (Nat.le_refl _) _ _ _⟩
    | true =>
      rw [hv] at CV
      obtain ⟨n1, n2, _, _⟩ := validR_num hv
      have l1 : X.size ≤ 120 := (isNum_parts n1).1.2
      have l2 : Y.size ≤ 120 := (isNum_parts n2).1.2
      have CF : Hid (∀ W, _) := Lib.hid fun W => specFormat1_any false X Y W l1 l2
      obtain ⟨T, hT⟩ : ∃ T, T = fmtS false X Y := ⟨_, rfl⟩
      rw [← hT] at CF
      cases hq : (T.toList == s.toList) with
      | false =>
        have HN := Lib.hid (show specRes s false s = noRat by rw [HRES.out, ← hT, hq, Bool.and_false, if_neg (by decide)])
        clear hv hT n1 n2
        go_wp2_with (first
          | (go_at_call 45; refine (CV.out _).mono ?_; rintro e w2 ⟨rfl, hb2⟩; have hG4 := hG3.below hb2 hG3.lt; have hA4 := hA3.below hb2 hA3.lt; have hB4 := hB3.trans (hb2.mono hB3.size); clear u0 u1 u2; obtain ⟨u0, u1, u2, _, _, _⟩ := hG4.three; obtain ⟨z0, z1, z2, f0, f1, f2⟩ := hA4.three)
          | (go_at_call 64; refine (CF.out _).mono ?_; rintro e w3 ⟨rfl, hb3⟩; have hG5 := hG4.below hb3 hG4.lt; have hA5 := hA4.below hb3 hA4.lt; have hB5 := hB4.trans (hb3.mono hB4.size); clear u0 u1 u2 z0 z1 z2 f0 f1 f2; obtain ⟨u0, u1, u2, _, _, _⟩ := hG5.three; obtain ⟨z0, z1, z2, f0, f1, f2⟩ := hA5.three))
        obtain ⟨m0, m1, m2⟩ := hA5.put3 (.bool false) (.string ⟨#[]⟩) (.string ⟨#[]⟩)
        refine bodyPost_ret (v := noRat) (by simp [results, Tryz.results27, go_sem, noRat, m0, m1, m2]; done) rfl ?_
        exact ⟨by rw [HN.out], below_put3 hB5 (Nat.le_refl _) _ _ _⟩
      | true =>
        have HN := Lib.hid (show specRes s false s = .tuple #[.agg #[.bool false, .string X, .string Y], .bool true] by rw [HRES.out, hv, ← hT, hq, Bool.and_true, if_pos rfl])
        clear hv hT n1 n2
        go_wp2_with (first
          | (go_at_call 45; refine (CV.out _).mono ?_; rintro e w2 ⟨rfl, hb2⟩; have hG4 := hG3.below hb2 hG3.lt; have hA4 := hA3.below hb2 hA3.lt; have hB4 := hB3.trans (hb2.mono hB3.size); clear u0 u1 u2; obtain ⟨u0, u1, u2, _, _, _⟩ := hG4.three; obtain ⟨z0, z1, z2, f0, f1, f2⟩ := hA4.three)
          | (go_at_call 64; refine (CF.out _).mono ?_; rintro e w3 ⟨rfl, hb3⟩; have hG5 := hG4.below hb3 hG4.lt; have hA5 := hA4.below hb3 hA4.lt; have hB5 := hB4.trans (hb3.mono hB4.size); clear u0 u1 u2 z0 z1 z2 f0 f1 f2; obtain ⟨u0, u1, u2, _, _, _⟩ := hG5.three; obtain ⟨z0, z1, z2, f0, f1, f2⟩ := hA5.three))
        obtain ⟨m0, m1, m2⟩ := hA5.put3 (.bool false) (.string X) (.string Y)
        refine bodyPost_ret (v := .tuple #[.agg #[.bool false, .string X, .string Y], .bool true]) (by simp [results, Tryz.results27, go_sem, m0, m1, m2]; done) rfl ?_
        exact ⟨by rw [HN.out], below_put3 hB5 (Nat.le_refl _) _ _ _⟩

set_option maxRecDepth 100000 in
set_option maxHeartbeats 3200000 in
theorem specParse_nil (s : ByteArray) (w : World) (hs : s.size ≤ 1048576) (h0 : s.size = 0) :
    Calls Tryz.prog 27 #[.string s] w fun e w' => e = .returned (specRes s false s) ∧ Below w.heap.size w w' := by
  have he : (s.toList == []) = true := by
    rw [beq_iff_eq]
    apply List.eq_nil_of_length_eq_zero
    rw [len_list, h0]
  have hRs : s.size ≤ 1048576 := hs
  have CP := Lib.hid (fun W => split_any s W hRs)
  have hA := (Box.new w 24 #[.bool false, .string ⟨#[]⟩, .string ⟨#[]⟩]).alloc (.cells #[.bool false, .string ⟨#[]⟩, .string ⟨#[49]⟩] 24)
  have hG := Box.new (w.alloc (.cells #[.bool false, .string ⟨#[]⟩, .string ⟨#[]⟩] 24)) 24 #[.bool false, .string ⟨#[]⟩, .string ⟨#[49]⟩]
  rw [show (w.alloc (.cells #[.bool false, .string ⟨#[]⟩, .string ⟨#[]⟩] 24)).heap.size = w.heap.size + 1 by simp] at hG
  have hB := ((Below.refl w.heap.size w).alloc (Nat.le_refl _) (.cells #[.bool false, .string ⟨#[]⟩, .string ⟨#[]⟩] 24)).alloc (by simp) (.cells #[.bool false, .string ⟨#[]⟩, .string ⟨#[49]⟩] 24)
  go_enter Tryz.func27, Tryz.ntmps27
  go_upto_region 5 with fail
  go_upto_region 6 with (go_at_call 74; refine (CP.out _).mono ?_; rintro e w1 ⟨⟨v, rfl, hown⟩, hb1⟩)
  obtain ⟨g, cap, rfl, hg, hcell⟩ := own_strs hown (parts_pos s)
  have hA1 := hA.below hb1 hA.lt
  have hG1 := hG.below hb1 hG.lt
  have hB1 := hB.trans (hb1.mono hB.size)
  have hgG : g ≠ w.heap.size + 1 := by simp at hg; omega
  have hGg : w.heap.size + 1 ≠ g := hgG.symm
  obtain ⟨X, hX⟩ : ∃ X, X = numP s := ⟨_, rfl⟩
  have hc0 : w1.cell? ⟨g, 0, none⟩ = some (.string X) := by rw [hX]; exact hcell 0 (parts_pos s)
  obtain ⟨L, hL⟩ : ∃ L, L = (parts s).length := ⟨_, rfl⟩
  have hLp : 0 < L := by rw [hL]; exact parts_pos s
  have hLs : L ≤ 1048577 := by
    have := (splS_le s s.size).2
    rw [hL]
    unfold parts
    rw [List.length_append, List.length_cons, List.length_nil]
    omega
  obtain ⟨Y, hY⟩ : ∃ Y, Y = denP s := ⟨_, rfl⟩
  have HRES := Lib.hid (show specRes s false s = if (validR false X Y && ((fmtS false X Y).toList == s.toList)) = true then .tuple #[.agg #[.bool false, .string X, .string Y], .bool true] else noRat by unfold specRes; rw [← hX, ← hY])
  have hXs : X.size ≤ 1048576 := by rw [hX]; exact Nat.le_trans (part_le s 0) hRs
  have hYs : Y.size ≤ 1048576 := by
    rw [hY, denP]
    split
    · exact Nat.le_trans (part_le s 1) hRs
    · show 1 ≤ _
      omega
  obtain ⟨q0, q1, q2, p0, p1, p2⟩ := hG1.three
  rw [← hL]
  have hG2 := hG1.set 1 (.string X)
  by_cases h1 : 1 < L
  · have hc1 : w1.cell? ⟨g, 1, none⟩ = some (.string Y) := by
      rw [hY, denP, if_pos (by rw [← hL]; exact h1)]
      exact hcell 1 (by rw [← hL]; exact h1)
    clear hcell hown hX hY hL
    go_upto_region 9 with fail
    obtain ⟨W, hWe⟩ : ∃ W, W = (w1.setCell ⟨w.heap.size + 1, 1, none⟩ (.string X)).setCell ⟨w.heap.size + 1, 2, none⟩ (.string Y) := ⟨_, rfl⟩
    have hG3 : Box ((w1.setCell ⟨w.heap.size + 1, 1, none⟩ (.string X)).setCell ⟨w.heap.size + 1, 2, none⟩ (.string Y)) (w.heap.size + 1) 24 #[.bool false, .string X, .string Y] := (hG1.set 1 _).set 2 _
    have hA3 : Box ((w1.setCell ⟨w.heap.size + 1, 1, none⟩ (.string X)).setCell ⟨w.heap.size + 1, 2, none⟩ (.string Y)) w.heap.size 24 #[.bool false, .string ⟨#[]⟩, .string ⟨#[]⟩] := (hA1.other (by omega : w.heap.size + 1 ≠ w.heap.size) 1 _).other (by omega : w.heap.size + 1 ≠ w.heap.size) 2 _
    have hB3 : Below w.heap.size w ((w1.setCell ⟨w.heap.size + 1, 1, none⟩ (.string X)).setCell ⟨w.heap.size + 1, 2, none⟩ (.string Y)) := (hB1.setCell (p := ⟨w.heap.size + 1, 1, none⟩) (by simp) _).setCell (p := ⟨w.heap.size + 1, 2, none⟩) (by simp) _
    rw [← hWe] at hG3 hA3 hB3 ⊢
    clear hWe hG hG1 hG2 hA hA1 hB hB1 hc0 hc1 q0 q1 q2 p0 p1 p2 hgG hGg hb1 he
    obtain ⟨u0, u1, u2, _, _, _⟩ := hG3.three
    have CV : Hid (∀ W, _) := Lib.hid fun W => validS_any false X Y W (by omega) (by omega)
    cases hv : validR false X Y with
    | false =>
      rw [hv] at CV
      have HN := Lib.hid (show specRes s false s = noRat by rw [HRES.out, hv, Bool.false_and, if_neg (by decide)])
      clear hv
      go_wp2_with (go_at_call 45; refine (CV.out _).mono ?_; rintro e w2 ⟨rfl, hb2⟩; have hG4 := hG3.below hb2 hG3.lt; have hA4 := hA3.below hb2 hA3.lt; have hB4 := hB3.trans (hb2.mono hB3.size); clear u0 u1 u2; obtain ⟨u0, u1, u2, _, _, _⟩ := hG4.three; obtain ⟨z0, z1, z2, f0, f1, f2⟩ := hA4.three)
      obtain ⟨m0, m1, m2⟩ := hA4.put3 (.bool false) (.string ⟨#[]⟩) (.string ⟨#[]⟩)
      refine bodyPost_ret (v := noRat) (by simp [results, Tryz.results27, go_sem, noRat, m0, m1, m2]; done) rfl ?_
      exact ⟨by rw [HN.out], below_put3 hB4 (Nat.le_refl _) _ _ _⟩
    | true =>
      rw [hv] at CV
      obtain ⟨n1, n2, _, _⟩ := validR_num hv
      have l1 : X.size ≤ 120 := (isNum_parts n1).1.2
      have l2 : Y.size ≤ 120 := (isNum_parts n2).1.2
      have CF : Hid (∀ W, _) := Lib.hid fun W => specFormat1_any false X Y W l1 l2
      obtain ⟨T, hT⟩ : ∃ T, T = fmtS false X Y := ⟨_, rfl⟩
      rw [← hT] at CF
      cases hq : (T.toList == s.toList) with
      | false =>
        have HN := Lib.hid (show specRes s false s = noRat by rw [HRES.out, ← hT, hq, Bool.and_false, if_neg (by decide)])
        clear hv hT n1 n2
        go_wp2_with (first
          | (go_at_call 45; refine (CV.out _).mono ?_; rintro e w2 ⟨rfl, hb2⟩; have hG4 := hG3.below hb2 hG3.lt; have hA4 := hA3.below hb2 hA3.lt; have hB4 := hB3.trans (hb2.mono hB3.size); clear u0 u1 u2; obtain ⟨u0, u1, u2, _, _, _⟩ := hG4.three; obtain ⟨z0, z1, z2, f0, f1, f2⟩ := hA4.three)
          | (go_at_call 64; refine (CF.out _).mono ?_; rintro e w3 ⟨rfl, hb3⟩; have hG5 := hG4.below hb3 hG4.lt; have hA5 := hA4.below hb3 hA4.lt; have hB5 := hB4.trans (hb3.mono hB4.size); clear u0 u1 u2 z0 z1 z2 f0 f1 f2; obtain ⟨u0, u1, u2, _, _, _⟩ := hG5.three; obtain ⟨z0, z1, z2, f0, f1, f2⟩ := hA5.three))
        obtain ⟨m0, m1, m2⟩ := hA5.put3 (.bool false) (.string ⟨#[]⟩) (.string ⟨#[]⟩)
        refine bodyPost_ret (v := noRat) (by simp [results, Tryz.results27, go_sem, noRat, m0, m1, m2]; done) rfl ?_
        exact ⟨by rw [HN.out], below_put3 hB5 (Nat.le_refl _) _ _ _⟩
      | true =>
        have HN := Lib.hid (show specRes s false s = .tuple #[.agg #[.bool false, .string X, .string Y], .bool true] by rw [HRES.out, hv, ← hT, hq, Bool.and_true, if_pos rfl])
        clear hv hT n1 n2
        go_wp2_with (first
          | (go_at_call 45; refine (CV.out _).mono ?_; rintro e w2 ⟨rfl, hb2⟩; have hG4 := hG3.below hb2 hG3.lt; have hA4 := hA3.below hb2 hA3.lt; have hB4 := hB3.trans (hb2.mono hB3.size); clear u0 u1 u2; obtain ⟨u0, u1, u2, _, _, _⟩ := hG4.three; obtain ⟨z0, z1, z2, f0, f1, f2⟩ := hA4.three)
          | (go_at_call 64; refine (CF.out _).mono ?_; rintro e w3 ⟨rfl, hb3⟩; have hG5 := hG4.below hb3 hG4.lt; have hA5 := hA4.below hb3 hA4.lt; have hB5 := hB4.trans (hb3.mono hB4.size); clear u0 u1 u2 z0 z1 z2 f0 f1 f2; obtain ⟨u0, u1, u2, _, _, _⟩ := hG5.three; obtain ⟨z0, z1, z2, f0, f1, f2⟩ := hA5.three))
        obtain ⟨m0, m1, m2⟩ := hA5.put3 (.bool false) (.string X) (.string Y)
        refine bodyPost_ret (v := .tuple #[.agg #[.bool false, .string X, .string Y], .bool true]) (by simp [results, Tryz.results27, go_sem, m0, m1, m2]; done) rfl ?_
        exact ⟨by rw [HN.out], below_put3 hB5 (Nat.le_refl _) _ _ _⟩
  · have hYe : Y = ⟨#[49]⟩ := by rw [hY, denP, if_neg (by rw [← hL]; exact h1)]
    clear hcell hown hX hY hL
    go_upto_region 9 with fail
    obtain ⟨W, hWe⟩ : ∃ W, W = w1.setCell ⟨w.heap.size + 1, 1, none⟩ (.string X) := ⟨_, rfl⟩
    have hG3 : Box (w1.setCell ⟨w.heap.size + 1, 1, none⟩ (.string X)) (w.heap.size + 1) 24 #[.bool false, .string X, .string Y] := by rw [hYe]; exact hG1.set 1 _
    clear hYe
    have hA3 : Box (w1.setCell ⟨w.heap.size + 1, 1, none⟩ (.string X)) w.heap.size 24 #[.bool false, .string ⟨#[]⟩, .string ⟨#[]⟩] := hA1.other (by omega : w.heap.size + 1 ≠ w.heap.size) 1 _
    have hB3 : Below w.heap.size w (w1.setCell ⟨w.heap.size + 1, 1, none⟩ (.string X)) := hB1.setCell (p := ⟨w.heap.size + 1, 1, none⟩) (by simp) _
    rw [← hWe] at hG3 hA3 hB3 ⊢
    clear hWe hG hG1 hG2 hA hA1 hB hB1 hc0 q0 q1 q2 p0 p1 p2 hgG hGg hb1 he
    obtain ⟨u0, u1, u2, _, _, _⟩ := hG3.three
    have CV : Hid (∀ W, _) := Lib.hid fun W => validS_any false X Y W (by omega) (by omega)
    cases hv : validR false X Y with
    | false =>
      rw [hv] at CV
      have HN := Lib.hid (show specRes s false s = noRat by rw [HRES.out, hv, Bool.false_and, if_neg (by decide)])
      clear hv
      go_wp2_with (go_at_call 45; refine (CV.out _).mono ?_; rintro e w2 ⟨rfl, hb2⟩; have hG4 := hG3.below hb2 hG3.lt; have hA4 := hA3.below hb2 hA3.lt; have hB4 := hB3.trans (hb2.mono hB3.size); clear u0 u1 u2; obtain ⟨u0, u1, u2, _, _, _⟩ := hG4.three; obtain ⟨z0, z1, z2, f0, f1, f2⟩ := hA4.three)
      obtain ⟨m0, m1, m2⟩ := hA4.put3 (.bool false) (.string ⟨#[]⟩) (.string ⟨#[]⟩)
      refine bodyPost_ret (v := noRat) (by simp [results, Tryz.results27, go_sem, noRat, m0, m1, m2]; done) rfl ?_
      exact ⟨by rw [HN.out], below_put3 hB4 (Nat.le_refl _) _ _ _⟩
    | true =>
      rw [hv] at CV
      obtain ⟨n1, n2, _, _⟩ := validR_num hv
      have l1 : X.size ≤ 120 := (isNum_parts n1).1.2
      have l2 : Y.size ≤ 120 := (isNum_parts n2).1.2
      have CF : Hid (∀ W, _) := Lib.hid fun W => specFormat1_any false X Y W l1 l2
      obtain ⟨T, hT⟩ : ∃ T, T = fmtS false X Y := ⟨_, rfl⟩
      rw [← hT] at CF
      cases hq : (T.toList == s.toList) with
      | false =>
        have HN := Lib.hid (show specRes s false s = noRat by rw [HRES.out, ← hT, hq, Bool.and_false, if_neg (by decide)])
        clear hv hT n1 n2
        go_wp2_with (first
          | (go_at_call 45; refine (CV.out _).mono ?_; rintro e w2 ⟨rfl, hb2⟩; have hG4 := hG3.below hb2 hG3.lt; have hA4 := hA3.below hb2 hA3.lt; have hB4 := hB3.trans (hb2.mono hB3.size); clear u0 u1 u2; obtain ⟨u0, u1, u2, _, _, _⟩ := hG4.three; obtain ⟨z0, z1, z2, f0, f1, f2⟩ := hA4.three)
          | (go_at_call 64; refine (CF.out _).mono ?_; rintro e w3 ⟨rfl, hb3⟩; have hG5 := hG4.below hb3 hG4.lt; have hA5 := hA4.below hb3 hA4.lt; have hB5 := hB4.trans (hb3.mono hB4.size); clear u0 u1 u2 z0 z1 z2 f0 f1 f2; obtain ⟨u0, u1, u2, _, _, _⟩ := hG5.three; obtain ⟨z0, z1, z2, f0, f1, f2⟩ := hA5.three))
        obtain ⟨m0, m1, m2⟩ := hA5.put3 (.bool false) (.string ⟨#[]⟩) (.string ⟨#[]⟩)
        refine bodyPost_ret (v := noRat) (by simp [results, Tryz.results27, go_sem, noRat, m0, m1, m2]; done) rfl ?_
        exact ⟨by rw [HN.out], below_put3 hB5 (Nat.le_refl _) _ _ _⟩
      | true =>
        have HN := Lib.hid (show specRes s false s = .tuple #[.agg #[.bool false, .string X, .string Y], .bool true] by rw [HRES.out, hv, ← hT, hq, Bool.and_true, if_pos rfl])
        clear hv hT n1 n2
        go_wp2_with (first
          | (go_at_call 45; refine (CV.out _).mono ?_; rintro e w2 ⟨rfl, hb2⟩; have hG4 := hG3.below hb2 hG3.lt; have hA4 := hA3.below hb2 hA3.lt; have hB4 := hB3.trans (hb2.mono hB3.size); clear u0 u1 u2; obtain ⟨u0, u1, u2, _, _, _⟩ := hG4.three; obtain ⟨z0, z1, z2, f0, f1, f2⟩ := hA4.three)
          | (go_at_call 64; refine (CF.out _).mono ?_; rintro e w3 ⟨rfl, hb3⟩; have hG5 := hG4.below hb3 hG4.lt; have hA5 := hA4.below hb3 hA4.lt; have hB5 := hB4.trans (hb3.mono hB4.size); clear u0 u1 u2 z0 z1 z2 f0 f1 f2; obtain ⟨u0, u1, u2, _, _, _⟩ := hG5.three; obtain ⟨z0, z1, z2, f0, f1, f2⟩ := hA5.three))
        obtain ⟨m0, m1, m2⟩ := hA5.put3 (.bool false) (.string X) (.string Y)
        refine bodyPost_ret (v := .tuple #[.agg #[.bool false, .string X, .string Y], .bool true]) (by simp [results, Tryz.results27, go_sem, m0, m1, m2]; done) rfl ?_
        exact ⟨by rw [HN.out], below_put3 hB5 (Nat.le_refl _) _ _ _⟩

/-- The model's ParseRat, whatever the text. -/
theorem specParse_any (s : ByteArray) (w : World) (hs : s.size ≤ 1048576) :
    Calls Tryz.prog 27 #[.string s] w fun e w' => e = .returned (specRes s (sgnOf s) (restOf s)) ∧ Below w.heap.size w w' := by
  unfold restOf sgnOf
  by_cases h0 : 0 < s.size
  · by_cases h45 : byt s 0 = 45
    · rw [decide_eq_true ⟨h0, h45⟩, if_pos rfl]
      exact specParse_neg s w hs h0 h45
    · rw [decide_eq_false (fun h => h45 h.2), if_neg (by decide)]
      exact specParse_pos s w hs h0 h45
  · rw [decide_eq_false (fun h => h0 h.1), if_neg (by decide)]
    exact specParse_nil s w hs (by omega)

end Go.Proofs.YtmmonglcbkefmaaGreatDoor
/-
  The program's ParseRat.
-/
namespace Go.Proofs.YtmmonglcbkefmaaGreatDoor
open Go.RowKit Num

/-- What the program answers, from what the two cuts give. -/
def cutRes (ng fo : Bool) (N D : ByteArray) : Value :=
  if fo = true then (if (D.toList == [49]) = true then noRat else if validR ng N D = true then .tuple #[.agg #[.bool ng, .string N, .string D], .bool true] else noRat)
  else if validR ng N ⟨#[49]⟩ = true then .tuple #[.agg #[.bool ng, .string N, .string ⟨#[49]⟩], .bool true] else noRat

theorem clone_any' (s : ByteArray) (w : World) (hs : s.size ≤ 281474976710656) :
    Calls Tryz.prog 73 #[.string s] w fun e w' => e = .returned (.string s) ∧ Below w.heap.size w w' := by
  have C := Lib.hid (Tryz.stringslite_Clone s w hs)
  go_enter Tryz.func73, Tryz.ntmps73
  go_wp2_with (go_at_call 111; refine C.out.mono ?_; rintro e w1 ⟨rfl, hb⟩)
  go_ret
  exact ⟨rfl, hb⟩

theorem below_dn {w W : World} (h : Below w.heap.size w W) (k : Nat) : Below w.heap.size w (W.drewN k) := by
  exact ⟨h.os, h.tape, h.output, h.size, h.block⟩

theorem box_dn {W : World} {G : Nat} {t : TypeId} {cs : Array Value} (h : Box W G t cs) (k : Nat) : Box (W.drewN k) G t cs := h.below (B := W.heap.size) (below_dn (Below.refl _ W) k) h.lt

set_option maxRecDepth 100000 in
set_option maxHeartbeats 3200000 in
theorem implParse_cut (s : ByteArray) (w : World) (m : Int) (_hs : s.size ≤ 1048576) (hU : UnitB w) (hT : Tab64 w) (hm : w.cell? ⟨2, 0, none⟩ = some (.int .i64 m)) (hmb : 2 < w.heap.size)
    (U N D : ByteArray) (ng fo : Bool) (hu : U = ⟨(Lib.trimPrefix s.data.toList [45]).toArray⟩) (hng : ng = Lib.hasPrefix s.data.toList [45])
    (hN : N = ⟨(Lib.cut U.data.toList [47]).1.toArray⟩) (hD : D = ⟨(Lib.cut U.data.toList [47]).2.1.toArray⟩) (hfo : fo = (Lib.cut U.data.toList [47]).2.2) (sU : U.size ≤ 1048576) (sN : N.size ≤ 1048576) (sD : D.size ≤ 1048576) :
    Calls Tryz.prog 26 #[.string s] w fun e w' => e = .returned (cutRes ng fo N D) ∧ Below w.heap.size w w' := by
  have C1 : Hid (∀ W, _) := Lib.hid fun W => Tryz.strings_CutPrefix s ⟨#[45]⟩ W
  have e45 : (⟨#[45]⟩ : ByteArray).data.toList = [45] := rfl
  have e47 : (⟨#[47]⟩ : ByteArray).data.toList = [47] := rfl
  rw [e45, ← hu, ← hng] at C1
  have C2 : Hid (∀ W : World, W.cell? ⟨2, 0, none⟩ = some (.int .i64 m) → _) := Lib.hid fun W h => Tryz.strings_Cut U ⟨#[47]⟩ m W (by omega) h
  rw [e47, ← hN, ← hD, ← hfo] at C2
  have CV : Hid (∀ (Y : ByteArray) (W : World), Y.size ≤ 1048576 → Below w.heap.size w W → _) := Lib.hid fun Y W h1 hW => implValid_any ng N Y W (by omega) (by omega) (hU.below hW) (hT.below hW)
  have hR := Box.new w 24 #[.bool false, .string ⟨#[]⟩, .string ⟨#[]⟩]
  have hB := (Below.refl w.heap.size w).alloc (Nat.le_refl _) (.cells #[.bool false, .string ⟨#[]⟩, .string ⟨#[]⟩] 24)
  have hM := (hB.cell (p := ⟨2, 0, none⟩) hmb).trans hm
  clear hU hT hm hu hng hN hD hfo e45 e47
  unfold cutRes
  cases fo with
  | false =>
    rw [if_neg (by decide)]
    have CW : Hid (∀ W : World, Below w.heap.size w W → _) := Lib.hid fun W hW => CV.out ⟨#[49]⟩ W (by show 1 ≤ _; omega) hW
    cases hv : validR ng N ⟨#[49]⟩ with
    | false =>
      rw [hv] at CW
      rw [if_neg (by decide)]
      clear hv CV
      go_enter Tryz.func26, Tryz.ntmps26
      go_wp2_with (first
        | (go_at_call 71; refine (C1.out _).mono ?_; rintro e w1 ⟨rfl, rfl⟩)
        | (go_at_call 72; refine (C2.out _ hM).mono ?_; rintro e w2 ⟨rfl, k, rfl⟩; replace hB := below_dn hB k; have hR2 := box_dn hR k; obtain ⟨z0, z1, z2, f0, f1, f2⟩ := hR2.three)
        | (go_at_call 17; refine (CW.out _ hB).mono ?_; rintro e w3 ⟨rfl, hb3⟩; have hB3 := hB.trans (hb3.mono hB.size); have hR3 := hR2.below hb3 hR2.lt; clear z0 z1 z2 f0 f1 f2; obtain ⟨z0, z1, z2, f0, f1, f2⟩ := hR3.three))
      obtain ⟨m0, m1, m2⟩ := hR3.put3 (.bool false) (.string ⟨#[]⟩) (.string ⟨#[]⟩)
      refine bodyPost_ret (v := noRat) (by simp [results, Tryz.results26, go_sem, noRat, m0, m1, m2]; done) rfl ⟨rfl, ?_⟩
      exact below_put3 hB3 (Nat.le_refl _) _ _ _
    | true =>
      rw [hv] at CW
      rw [if_pos rfl]
      clear hv CV
      go_enter Tryz.func26, Tryz.ntmps26
      go_wp2_with (first
        | (go_at_call 71; refine (C1.out _).mono ?_; rintro e w1 ⟨rfl, rfl⟩)
        | (go_at_call 72; refine (C2.out _ hM).mono ?_; rintro e w2 ⟨rfl, k, rfl⟩; replace hB := below_dn hB k; have hR2 := box_dn hR k; obtain ⟨z0, z1, z2, f0, f1, f2⟩ := hR2.three)
        | (go_at_call 17; refine (CW.out _ hB).mono ?_; rintro e w3 ⟨rfl, hb3⟩; have hB3 := hB.trans (hb3.mono hB.size); have hR3 := hR2.below hb3 hR2.lt; clear z0 z1 z2 f0 f1 f2; obtain ⟨z0, z1, z2, f0, f1, f2⟩ := hR3.three)
        | (go_at_call_of 73 (Value.string N); refine (clone_any' N _ (by first | omega | (show 1 ≤ _; omega))).mono ?_; rintro e w4 ⟨rfl, hb4⟩; have hB4 := hB3.trans (hb4.mono hB3.size); have hR4 := hR3.below hb4 hR3.lt; clear z0 z1 z2 f0 f1 f2; obtain ⟨z0, z1, z2, f0, f1, f2⟩ := hR4.three)
        | (go_at_call_of 73 (Value.string ⟨#[49]⟩); refine (clone_any' ⟨#[49]⟩ _ (by first | omega | (show 1 ≤ _; omega))).mono ?_; rintro e w5 ⟨rfl, hb5⟩; have hB5 := hB4.trans (hb5.mono hB4.size); have hR5 := hR4.below hb5 hR4.lt; clear z0 z1 z2 f0 f1 f2; obtain ⟨z0, z1, z2, f0, f1, f2⟩ := hR5.three))
      obtain ⟨m0, m1, m2⟩ := hR5.put3 (.bool ng) (.string N) (.string ⟨#[49]⟩)
      refine bodyPost_ret (v := .tuple #[.agg #[.bool ng, .string N, .string ⟨#[49]⟩], .bool true]) (by simp [results, Tryz.results26, go_sem, m0, m1, m2]; done) rfl ⟨rfl, ?_⟩
      exact below_put3 hB5 (Nat.le_refl _) _ _ _
  | true =>
    rw [if_pos rfl]
    by_cases h1 : (D.toList == [49]) = true
    · rw [if_pos h1]
      clear CV
      go_enter Tryz.func26, Tryz.ntmps26
      go_wp2_with (first
        | (go_at_call 71; refine (C1.out _).mono ?_; rintro e w1 ⟨rfl, rfl⟩)
        | (go_at_call 72; refine (C2.out _ hM).mono ?_; rintro e w2 ⟨rfl, k, rfl⟩; replace hB := below_dn hB k; have hR2 := box_dn hR k; obtain ⟨z0, z1, z2, f0, f1, f2⟩ := hR2.three))
      obtain ⟨m0, m1, m2⟩ := hR2.put3 (.bool false) (.string ⟨#[]⟩) (.string ⟨#[]⟩)
      refine bodyPost_ret (v := noRat) (by simp [results, Tryz.results26, go_sem, noRat, m0, m1, m2]; done) rfl ⟨rfl, ?_⟩
      exact below_put3 hB (Nat.le_refl _) _ _ _
    · rw [if_neg h1]
      have h1' : (D.toList == [49]) = false := by simpa using h1
      clear h1
      have CW : Hid (∀ W : World, Below w.heap.size w W → _) := Lib.hid fun W hW => CV.out D W sD hW
      cases hv : validR ng N D with
      | false =>
        rw [hv] at CW
        rw [if_neg (by decide)]
        clear hv CV
        go_enter Tryz.func26, Tryz.ntmps26
        go_wp2_with (first
          | (go_at_call 71; refine (C1.out _).mono ?_; rintro e w1 ⟨rfl, rfl⟩)
          | (go_at_call 72; refine (C2.out _ hM).mono ?_; rintro e w2 ⟨rfl, k, rfl⟩; replace hB := below_dn hB k; have hR2 := box_dn hR k; obtain ⟨z0, z1, z2, f0, f1, f2⟩ := hR2.three)
          | (go_at_call 17; refine (CW.out _ hB).mono ?_; rintro e w3 ⟨rfl, hb3⟩; have hB3 := hB.trans (hb3.mono hB.size); have hR3 := hR2.below hb3 hR2.lt; clear z0 z1 z2 f0 f1 f2; obtain ⟨z0, z1, z2, f0, f1, f2⟩ := hR3.three))
        obtain ⟨m0, m1, m2⟩ := hR3.put3 (.bool false) (.string ⟨#[]⟩) (.string ⟨#[]⟩)
        refine bodyPost_ret (v := noRat) (by simp [results, Tryz.results26, go_sem, noRat, m0, m1, m2]; done) rfl ⟨rfl, ?_⟩
        exact below_put3 hB3 (Nat.le_refl _) _ _ _
      | true =>
        rw [hv] at CW
        rw [if_pos rfl]
        clear hv CV
        go_enter Tryz.func26, Tryz.ntmps26
        go_wp2_with (first
          | (go_at_call 71; refine (C1.out _).mono ?_; rintro e w1 ⟨rfl, rfl⟩)
          | (go_at_call 72; refine (C2.out _ hM).mono ?_; rintro e w2 ⟨rfl, k, rfl⟩; replace hB := below_dn hB k; have hR2 := box_dn hR k; obtain ⟨z0, z1, z2, f0, f1, f2⟩ := hR2.three)
          | (go_at_call 17; refine (CW.out _ hB).mono ?_; rintro e w3 ⟨rfl, hb3⟩; have hB3 := hB.trans (hb3.mono hB.size); have hR3 := hR2.below hb3 hR2.lt; clear z0 z1 z2 f0 f1 f2; obtain ⟨z0, z1, z2, f0, f1, f2⟩ := hR3.three)
          | (go_at_call_of 73 (Value.string N); refine (clone_any' N _ (by first | omega | (show 1 ≤ _; omega))).mono ?_; rintro e w4 ⟨rfl, hb4⟩; have hB4 := hB3.trans (hb4.mono hB3.size); have hR4 := hR3.below hb4 hR3.lt; clear z0 z1 z2 f0 f1 f2; obtain ⟨z0, z1, z2, f0, f1, f2⟩ := hR4.three)
          | (go_at_call_of 73 (Value.string D); refine (clone_any' D _ (by first | omega | (show 1 ≤ _; omega))).mono ?_; rintro e w5 ⟨rfl, hb5⟩; have hB5 := hB4.trans (hb5.mono hB4.size); have hR5 := hR4.below hb5 hR4.lt; clear z0 z1 z2 f0 f1 f2; obtain ⟨z0, z1, z2, f0, f1, f2⟩ := hR5.three))
        obtain ⟨m0, m1, m2⟩ := hR5.put3 (.bool ng) (.string N) (.string D)
        refine bodyPost_ret (v := .tuple #[.agg #[.bool ng, .string N, .string D], .bool true]) (by simp [results, Tryz.results26, go_sem, m0, m1, m2]; done) rfl ⟨rfl, ?_⟩
        exact below_put3 hB5 (Nat.le_refl _) _ _ _

end Go.Proofs.YtmmonglcbkefmaaGreatDoor
