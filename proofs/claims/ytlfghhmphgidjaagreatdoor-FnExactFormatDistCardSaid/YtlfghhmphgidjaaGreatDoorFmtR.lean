/-
  FormatRat: the model's and the program's (out of FmtP, for the seats that lack the law on it).
-/
import Derived.Test.YtlfghhmphgidjaaGreatDoorSumMulQ
import Derived.Test.YtlfghhmphgidjaaGreatDoorFracLaw
import Derived.Test.YtlfghhmphgidjaaGreatDoorBuildW
import Derived.Test.YtlfghhmphgidjaaGreatDoorShelf
namespace Go.Proofs.YtlfghhmphgidjaaGreatDoor
open Go.RowKit Num

/-- The text of a Rat. -/
def fmtL (b : Bool) (x y : ByteArray) : List UInt8 := (if b = true then [45] else []) ++ x.toList ++ (if (y.toList == [49]) = true then [] else 47 :: y.toList)
def fmtS (b : Bool) (x y : ByteArray) : ByteArray := ⟨(fmtL b x y).toArray⟩

theorem bytes_app (a b : ByteArray) : a ++ b = ⟨(a.toList ++ b.toList).toArray⟩ := by
  apply ByteArray.ext
  apply Array.ext'
  rw [Lib.toList_data, Lib.toList_data]
  simp

theorem toList_mk (l : List UInt8) : (⟨l.toArray⟩ : ByteArray).toList = l := by rw [Lib.toList_data]

theorem fmtS_eq (b : Bool) (x y : ByteArray) : fmtS b x y = (if (y.toList == [49]) = true then (if b = true then ⟨#[45]⟩ ++ x else x) else (if b = true then ⟨#[45]⟩ ++ x else x) ++ (⟨#[47]⟩ ++ y)) := by
  unfold fmtS fmtL
  have h45 : (⟨#[45]⟩ : ByteArray).toList = [45] := toList_mk [45]
  have h47 : (⟨#[47]⟩ : ByteArray).toList = [47] := toList_mk [47]
  have hx : (⟨x.toList.toArray⟩ : ByteArray) = x := by rw [Lib.toList_data]
  cases b <;> cases (y.toList == [49]) <;> simp [bytes_app, hx, h45, h47]

set_option maxRecDepth 100000 in
set_option maxHeartbeats 1600000 in
theorem specFormat1_any (b : Bool) (x y : ByteArray) (w : World) (hx : x.size ≤ 120) (hy : y.size ≤ 120) :
    Calls Tryz.prog 102 #[.agg #[.bool b, .string x, .string y]] w fun e w' => e = .returned (.string (fmtS b x y)) ∧ Below w.heap.size w w' := by
  have hbox := Box.new w 27 #[.bool b, .string x, .string y]
  obtain ⟨r0, r1, r2, _, _, _⟩ := hbox.three
  have g1 : ¬ 9223372036854775807 < 1 + x.size := by omega
  have g2 : ¬ 9223372036854775807 < 1 + y.size := by omega
  have g3 : ¬ 9223372036854775807 < x.size + (1 + y.size) := by omega
  have g4 : ¬ 9223372036854775807 < 1 + x.size + (1 + y.size) := by omega
  rw [fmtS_eq]
  cases b <;> cases hd : (y.toList == [49])
  all_goals
    go_enter Tryz.func102, Tryz.ntmps102
    go_wp2_with fail
    all_goals first | (exfalso; omega) | skip
    go_ret
    refine ⟨?_, (Below.refl _ w).alloc (Nat.le_refl _) _⟩
    simp

theorem wB_any (B b : Nat) (l : List UInt8) (c : UInt8) (n : Int) (hn : n = c.toNat) (w : World) (h : Lib.IsBuilder 134 5 B b (Lib.byteCells l) w) (hlen : l.length ≤ 1000000) (hBw : B ≤ w.heap.size) :
    Calls Tryz.prog 103 #[.pointer (some ⟨b, 0, none⟩), .int .u8 n] w fun e w' => e = .returned .nilIface ∧ Lib.IsBuilder 134 5 B b (Lib.byteCells (l ++ [c])) w' ∧ Below B w w' := by
  refine (writeByte_any B b _ n w h (by rw [Lib.byteCells_length]; omega) hBw).mono ?_
  rintro e w' ⟨rfl, h', hb⟩
  refine ⟨rfl, Or.inr ?_, hb⟩
  rw [Lib.byteCells_append]
  subst hn
  exact h'

theorem wS_any (B b : Nat) (l : List UInt8) (s : ByteArray) (w : World) (h : Lib.IsBuilder 134 5 B b (Lib.byteCells l) w) (hlen : l.length ≤ 1000000) (hs : s.size ≤ 1000000) (hBw : B ≤ w.heap.size) :
    Calls Tryz.prog 105 #[.pointer (some ⟨b, 0, none⟩), .string s] w fun e w' => e = .returned (.tuple #[.int .i64 s.size, .nilIface]) ∧ Lib.IsBuilder 134 5 B b (Lib.byteCells (l ++ s.toList)) w' ∧ Below B w w' := by
  refine (writeString_any B b _ s w h (by rw [Lib.byteCells_length]; omega) hBw).mono ?_
  rintro e w' ⟨rfl, h', hb⟩
  refine ⟨rfl, Or.inr ?_, hb⟩
  rw [Lib.byteCells_append, Lib.toList_data, ← Lib.strCells_eq]
  exact h'

theorem len_list (s : ByteArray) : s.toList.length = s.size := list_size s

set_option maxRecDepth 100000 in
set_option maxHeartbeats 3200000 in
theorem implFormat_any (b : Bool) (x y : ByteArray) (w : World) (hx : x.size ≤ 9223372036854775807) (hy : y.size ≤ 9223372036854775807) (hU : UnitB w) (hT : Tab64 w) :
    Calls Tryz.prog 104 #[.agg #[.bool b, .string x, .string y]] w fun e w' => e = .returned (if validR b x y = true then .tuple #[.string (fmtS b x y), .bool true] else .tuple #[.string ⟨#[]⟩, .bool false]) ∧ Below w.heap.size w w' := by
  have C1 : Hid (∀ W, Below w.heap.size w W → _) := Lib.hid fun W hW => implValid_any b x y W hx hy (hU.below hW) (hT.below hW)
  have hbox := Box.new w 27 #[.bool b, .string x, .string y]
  have hB := (Below.refl w.heap.size w).alloc (Nat.le_refl _) (.cells #[.bool b, .string x, .string y] 27)
  obtain ⟨r0, r1, r2, _, _, _⟩ := hbox.three
  cases hv : validR b x y with
  | false =>
    rw [hv] at C1
    rw [if_neg (by decide)]
    go_enter Tryz.func104, Tryz.ntmps104
    go_wp2_with (go_at_call 148; refine (C1.out _ hB).mono ?_; rintro e w1 ⟨rfl, hb⟩; replace hB := hB.trans (hb.mono hB.size); clear hb)
    go_ret2
    exact ⟨rfl, hB⟩
  | true =>
    rw [hv] at C1
    rw [if_pos rfl]
    obtain ⟨m1, m2, _, _⟩ := validR_num hv
    have q1 : x.size ≤ 120 := (isNum_parts m1).1.2
    have q2 : y.size ≤ 120 := (isNum_parts m2).1.2
    have l1 := len_list x
    have l2 := len_list y
    obtain ⟨t, ht⟩ : ∃ t, t = fmtL b x y := ⟨_, rfl⟩
    have hs : fmtS b x y = ⟨t.toArray⟩ := by rw [ht]; rfl
    rw [hs]
    clear hv m1 m2 hx hy hU hT hs
    unfold fmtL at ht
    cases b <;> cases hd : (y.toList == [49])
    all_goals
      rw [hd] at ht
      simp only [Bool.false_eq_true, if_false, if_true, List.nil_append, List.append_nil] at ht
      subst ht
      go_enter Tryz.func104, Tryz.ntmps104
      go_upto_region 4 with (go_at_call 148; refine (C1.out _ hB).mono ?_; rintro e w1 ⟨rfl, hb⟩; replace hB := hB.trans (hb.mono hB.size); replace hbox := hbox.below hb hbox.lt; clear hb r0 r1 r2)
      have hlt := hbox.lt
      have hw1 := hB.size
      have hH : Lib.IsBuilder 134 5 w1.heap.size w1.heap.size (Lib.byteCells []) _ := Lib.fresh_isBuilder 134 5 w1
      have hbox2 := hbox.alloc (.cells #[.pointer none, .slice none 0 0] 134)
      have hB2 := hB.alloc hB.size (.cells #[.pointer none, .slice none 0 0] 134)
      have hz : w1.heap.size ≤ (w1.alloc (.cells #[.pointer none, .slice none 0 0] 134)).heap.size := by simp
      clear hbox hB C1
      obtain ⟨r0, r1, r2, _, _, _⟩ := hbox2.three
      go_wp2_with (first
        | (go_at_call 103; (first | refine (wB_any _ _ _ 45 _ (by decide) _ hH (by first | (simp; omega) | simp | (simp [l1, l2]; omega)) hz).mono ?_ | refine (wB_any _ _ _ 47 _ (by decide) _ hH (by first | (simp; omega) | simp | (simp [l1, l2]; omega)) hz).mono ?_); rintro e w2 ⟨rfl, h', hb⟩; replace hH := h'; clear h'; replace hz := Nat.le_trans hz hb.size; replace hbox2 := hbox2.below hb hlt; replace hB2 := hB2.trans (hb.mono hw1); clear hb r0 r1 r2; obtain ⟨r0, r1, r2, _, _, _⟩ := hbox2.three)
        | (go_at_call 105; refine (wS_any _ _ _ _ _ hH (by first | (simp; omega) | simp | (simp [l1, l2]; omega)) (by omega) hz).mono ?_; rintro e w2 ⟨rfl, h', hb⟩; replace hH := h'; clear h'; replace hz := Nat.le_trans hz hb.size; replace hbox2 := hbox2.below hb hlt; replace hB2 := hB2.trans (hb.mono hw1); clear hb r0 r1 r2; obtain ⟨r0, r1, r2, _, _, _⟩ := hbox2.three)
        | (go_at_call 107; refine (Tryz.Builder_String_any _ _ _ _ hH hz).mono ?_; rintro e w5 ⟨rfl, hb⟩; replace hB2 := hB2.trans (hb.mono hw1); clear hb))
      go_ret2
      refine ⟨?_, hB2⟩
      simp

end Go.Proofs.YtlfghhmphgidjaaGreatDoor
