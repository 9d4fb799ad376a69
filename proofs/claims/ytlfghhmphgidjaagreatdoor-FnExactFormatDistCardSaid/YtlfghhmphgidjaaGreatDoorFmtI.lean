/-
  FormatDist: the program, and the law.
-/
import Derived.Test.YtlfghhmphgidjaaGreatDoorFmtD
import Derived.Test.YtlfghhmphgidjaaGreatDoorDistV
import Derived.Lib.AppendIntMem
import Derived.Deep.RegionWith
namespace Go.Proofs.YtlfghhmphgidjaaGreatDoor
open Go.RowKit Num

theorem bld_below {B b : Nat} {bs : List Value} {W W' : World} (h : Lib.IsBuilder 134 5 B b bs W) (hb : Below W.heap.size W W') : Lib.IsBuilder 134 5 B b bs W' := by
  rcases h with ⟨hB, v, hv, hown, hne⟩ | ⟨hB, v, hv, hown, hne⟩
  · exact .inl ⟨hB, v, (hb.block b (heap_lt hv)).trans hv, own_below hown hb (Nat.le_refl _), hne⟩
  · exact .inr ⟨hB, v, (hb.block b (heap_lt hv)).trans hv, own_below hown hb (Nat.le_refl _), hne⟩

theorem bld_lt {B b : Nat} {bs : List Value} {W : World} (h : Lib.IsBuilder 134 5 B b bs W) : b < W.heap.size := by
  rcases h with ⟨hB, v, hv, hown, hne⟩ | ⟨hB, v, hv, hown, hne⟩
  · exact heap_lt hv
  · exact heap_lt hv

theorem checkK_any (B b : Nat) (bs : List Value) (w : World) (h : Lib.IsBuilder 134 5 B b bs w) :
    Calls Tryz.prog 147 #[.pointer (some ⟨b, 0, none⟩)] w fun e w' => e = .returned (.tuple #[]) ∧ Lib.BuilderAt 134 5 B b (.pointer (some ⟨b, 0, none⟩)) bs w' ∧ Below B w w' ∧ ∀ g t cs, Box w g t cs → g ≠ b → Box w' g t cs := by
  rcases h with h | h
  · refine (check_fresh b w h.cell0 h.shape h.frozen0).mono ?_
    rintro e w' ⟨rfl, rfl⟩
    exact ⟨rfl, h.used _, (Below.refl B w).setCell (p := ⟨b, 0, none⟩) h.1 _, fun g t cs q hg => q.far (Ne.symm hg) 0 _⟩
  · refine (check_used b w h.cell0).mono ?_
    rintro e w' ⟨rfl, rfl⟩
    exact ⟨rfl, h, Below.refl B _, fun _ _ _ q _ => q⟩

set_option maxHeartbeats 2000000 in
set_option maxRecDepth 100000 in
theorem writeByteK_any (B b : Nat) (bs : List Value) (c : Int) (w : World) (h : Lib.IsBuilder 134 5 B b bs w) (hlen : bs.length + 1 ≤ 140737488355328) (hBw : B ≤ w.heap.size) :
    Calls Tryz.prog 103 #[.pointer (some ⟨b, 0, none⟩), .int .u8 c] w fun e w' => e = .returned .nilIface ∧ Lib.BuilderAt 134 5 B b (.pointer (some ⟨b, 0, none⟩)) (bs ++ [.int .u8 c]) w' ∧ Below B w w' ∧ ∀ g t cs, Box w g t cs → g ≠ b → t ≠ 5 → Box w' g t cs := by
  obtain ⟨i0, hi, hz0, hz1, hz2⟩ := info_parts info_byte
  go_enter Tryz.func103, Tryz.ntmps103
  go_wp2_with (go_at_call 147; refine (checkK_any B b bs _ h).mono ?_)
  rintro e w1 ⟨rfl, ⟨hB, v, hbk, hown, hne⟩, hb1, hk1⟩
  have HK1 := Lib.hid hk1
  clear hk1
  have c0 : w1.cell? ⟨b, 0, none⟩ = some (.pointer (some ⟨b, 0, none⟩)) := by rw [Lib.cell_of_heap hbk]; rfl
  have c1 : w1.cell? ⟨b, 1, none⟩ = some v := by rw [Lib.cell_of_heap hbk]; rfl
  go_wp2_with (at_builtin; refine wpList_append_own _ rfl _ _ 59 rfl B 5 i0 (.int .u8 0) 1 1 Tryz.underlying59 hi hz0 hz1 hz2 rfl (by decide) _ _ _ rfl (hown.alloc _) ⟨w1.heap.size, 0, none⟩ 1 1 [.int .u8 c] rfl rfl ?c1 ?c2 ?c3 ?c4 ?c5 ?_)
  case c1 =>
    intro j u hj
    match j, hj with
    | 0, hj => simp at hj; subst hj; simp [Addr.add]
  case c2 => intro u hu; simp at hu; subst hu; rfl
  case c3 => unfold maxLen; omega
  case c4 => omega
  case c5 => have := hb1.size; simp; omega
  intro v' w2 hown' hgrow _
  have hlt : b < w1.heap.size := heap_lt hbk
  have hb2 : w2.heap[b]? = some (.cells #[.pointer (some ⟨b, 0, none⟩), v] 134 (0, 0)) := by
    rw [hgrow.block b (by simp; omega) (fun e => hne e.symm), Lib.alloc_old w1 _ b hlt]
    exact hbk
  have d0 : w2.cell? ⟨b, 0, none⟩ = some (.pointer (some ⟨b, 0, none⟩)) := by rw [Lib.cell_of_heap hb2]; rfl
  have d1 : w2.cell? ⟨b, 1, none⟩ = some v := by rw [Lib.cell_of_heap hb2]; rfl
  have f1 : w2.frozen? ⟨b, 1, none⟩ = false := Lib.frozen_of_heap hb2 1
  obtain ⟨g, cap, rfl⟩ : ∃ g cap, v' = .slice (some ⟨g, 0, none⟩) (bs.length + 1) cap := by
    rcases hown'.2 with ⟨_, h0⟩ | ⟨g, cap, cur, hv, _⟩
    · omega
    · exact ⟨g, cap, hv⟩
  go_wp2
  go_ret
  refine ⟨rfl, ?_, ?_, ?_⟩
  · exact Lib.BuilderAt.put (T := 134) (e := 5) hB hb2 (bs' := bs ++ [.int .u8 c]) (by simpa using hown') (by decide)
  · exact ((hb1.alloc (by have := hb1.size; omega) _).grown hgrow (by have := hb1.size; simp; omega) (fun k hk => (hown.lt k hk).1)).setCell (p := ⟨b, 1, none⟩) hB _
  · intro g t cs q hg ht
    have q1 := (HK1.out g t cs q hg).alloc (.cells #[.int .u8 c] 5)
    exact (q1.grown hgrow (own_ne (hown.alloc _) q1 ht)).far (Ne.symm hg) 1 _

set_option maxRecDepth 100000 in
set_option maxHeartbeats 3200000 in
theorem fdI_any (A0 : Option Addr) (n cap : Nat) (F : Nat → Int × Bool × ByteArray × ByteArray) (w : World) (hn : n ≤ 1048576) (hA : PtAt w A0 n F) (hs : ∀ j, j < n → (F j).2.2.1.size ≤ 9223372036854775807 ∧ (F j).2.2.2.size ≤ 9223372036854775807) (hU : UnitB w) (hT : Tab64 w) (hP : TabP w) :
    Calls Tryz.prog 48 #[.agg #[.slice A0 n cap]] w fun e w' => e = .returned (fdRes F n) ∧ Below w.heap.size w w' := by
  have CV : Hid (∀ W, Below w.heap.size w W → _) := Lib.hid fun W hW => implDist_any A0 n cap F W hn (hA.below hW (Nat.le_refl _)) hs (hU.below hW) (hT.below hW)
  have hD := Box.new w 32 #[.slice A0 n cap]
  have hB := (Below.refl w.heap.size w).alloc (Nat.le_refl _) (.cells #[.slice A0 n cap] 32)
  have hd0 := hD.cell 0
  obtain ⟨r, hr⟩ : ∃ r, r = fdRes F n := ⟨_, rfl⟩
  rw [← hr]
  have Hr := Lib.hid hr; clear hr
  cases hv : distOk F n with
  | false =>
    rw [hv] at CV
    have hres : r = .tuple #[.string ⟨#[]⟩, .bool false] := by rw [Hr.out]; unfold fdRes; rw [if_neg (by rw [hv]; decide)]
    have Hres := Lib.hid hres
    clear hv hA hs hres
    go_enter Tryz.func48, Tryz.ntmps48
    go_wp2_with (go_at_call 53; refine (CV.out _ hB).mono ?_; rintro e w1 ⟨rfl, hb1⟩; have hB1 := hB.trans (hb1.mono hB.size))
    go_ret2
    exact ⟨by rw [Hres.out]; rfl, hB1⟩
  | true =>
    rw [hv] at CV
    obtain ⟨hn6, hok, _⟩ := distOk_parts hv
    have HV := Lib.hid hv
    have HA := Lib.hid hA
    have HP := Lib.hid hok
    have HU := Lib.hid hU
    have HT := Lib.hid hT
    have HPt := Lib.hid hP
    clear hv hA hs hok hU hT hP
    go_enter Tryz.func48, Tryz.ntmps48
    go_upto_region 4 with (go_at_call 53; refine (CV.out _ hB).mono ?_; rintro e w1 ⟨rfl, hb1⟩; have hB1 := hB.trans (hb1.mono hB.size))
    have hD1 := (hD.below hb1 hD.lt).alloc (.cells #[.pointer none, .slice none 0 0] 134)
    have hd1 := hD1.cell 0
    have hH : Lib.IsBuilder 134 5 w1.heap.size w1.heap.size (Lib.byteCells []) _ := Lib.fresh_isBuilder 134 5 w1
    have hB2 := hB1.alloc hB1.size (.cells #[.pointer none, .slice none 0 0] 134)
    have hz0 : w1.heap.size ≤ (w1.alloc (.cells #[.pointer none, .slice none 0 0] 134)).heap.size := by simp
    have hwb : w.heap.size ≤ w1.heap.size := by have := hB1.size; omega
    obtain ⟨b0, hb0⟩ : ∃ b, b = w1.heap.size := ⟨_, rfl⟩
    rw [← hb0] at hH hz0 hwb ⊢
    generalize hW : World.alloc w1 _ = W1 at hd1 hH hB2 hz0 ⊢
    clear hW hb0 hD1 hB1 hb1 hd0 hD hB CV
    go_wp2_with fail
    clear hd1
    go_loopg [15] n (fun q iv wr => ∃ k : Nat, k + q = n ∧ iv = .int .i64 (k : Nat) ∧ Lib.IsBuilder 134 5 b0 b0 (Lib.byteCells (dsL F k)) wr ∧ b0 ≤ wr.heap.size ∧ Below w.heap.size w wr)
    case atStart => exact ⟨0, by omega, rfl, hH, hz0, hB2⟩
    case round =>
      obtain ⟨k, hkq, rfl, hbd, hz1, hbel⟩ := hrel
      have HB := Lib.hid hbd
      clear hH hB2 hz0 hbd
      by_cases hk0 : k < n
      · have hAw : PtAt wr A0 n F := HA.out.below hbel (Nat.le_refl _)
        obtain ⟨b, off, rfl, hb, r0, r1, r2, r3⟩ := hAw.at_ hk0
        have hp := ptOk_parts (ptsOk_at HP.out hk0)
        have hval := hp.2.2.1
        obtain ⟨m1, m2, _, _⟩ := validR_num hp.2.2.1
        have q1 := (isNum_parts m1).1.2
        have q2 := (isNum_parts m2).1.2
        have hlen := dsL_len HP.out k (by omega)
        have hlen1 := dsL_len HP.out (k + 1) (by omega)
        have hstep : dsL F (k + 1) = dsL F k ++ (if k = 0 then [] else [32]) ++ (Lib.itoa (F k).1 ++ 58 :: fmtL (F k).2.1 (F k).2.2.1 (F k).2.2.2) := rfl
        have hfl := fmtL_len (F k).2.1 (F k).2.2.1 (F k).2.2.2 q1 q2
        have hil := Lib.itoa_length_le (F k).1 (by omega) (by omega)
        have CI : Hid (∀ W, Below w.heap.size w W → _) := Lib.hid fun W hW => Tryz.strconv_Itoa (F k).1 (by omega) (by omega) W (staysP.below _ _ HPt.out hW)
        have CF : Hid (∀ W, Below w.heap.size w W → _) := Lib.hid fun W hW => implFormat_any (F k).2.1 (F k).2.2.1 (F k).2.2.2 W (by omega) (by omega) (HU.out.below hW) (HT.out.below hW)
        rw [hval] at CF
        obtain ⟨⟨pv, rb, rx, ry⟩, hF⟩ : ∃ t, t = F k := ⟨_, rfl⟩
        rw [← hF] at r0 r1 r2 r3 CI CF hstep hfl hil
        simp only [if_true] at r0 r1 r2 r3 CI CF hstep hfl hil
        obtain ⟨I, hI⟩ : ∃ I : ByteArray, I = ⟨(Lib.itoa pv).toArray⟩ := ⟨_, rfl⟩
        obtain ⟨M, hM⟩ : ∃ M : ByteArray, M = fmtS rb rx ry := ⟨_, rfl⟩
        have zI : I.size ≤ 21 := by rw [hI]; simpa [ByteArray.size] using hil
        have zM : M.size ≤ 242 := by rw [hM]; unfold fmtS; simpa [ByteArray.size] using hfl
        have tI : I.toList = Lib.itoa pv := by rw [hI, toList_mk]
        have tM : M.toList = fmtL rb rx ry := by rw [hM]; unfold fmtS; rw [toList_mk]
        have lI : I.toList.length ≤ 21 := by rw [tI]; exact hil
        rw [← hI] at CI
        rw [← hM] at CF
        rw [← tI, ← tM] at hstep
        have Hstep := Lib.hid hstep
        have hX := Box.new wr 93 #[.int .i64 pv, .bool rb, .string rx, .string ry]
        have hal := (Below.refl wr.heap.size wr).alloc (Nat.le_refl _) (.cells #[.int .i64 pv, .bool rb, .string rx, .string ry] 93)
        have hTb : wr.heap.size ≠ b0 := by have := bld_lt HB.out; omega
        replace HB := Lib.hid (bld_below HB.out hal)
        replace hz1 := Nat.le_trans hz1 hal.size
        replace hbel := hbel.trans (hal.mono hbel.size)
        obtain ⟨x0, x1, x2, x3, _, _, _, _⟩ := hX.four
        clear hb hAw hal hp hval m1 m2 q1 q2 hstep hfl hil hF hI hM tI tM
        by_cases hz : k = 0
        · have hdN : decide (0 < k) = false := decide_eq_false (by omega)
          have hdI : decide ((0 : Int) < (k : Int)) = false := decide_eq_false (by omega)
          have HZ := Lib.hid hz
          clear hz
          go_upto_region 9 with fail
          generalize hW : World.alloc wr _ = w2 at hX HB hz1 hbel x0 x1 x2 x3 ⊢
          clear hW r0 r1 r2 r3
          have hl2 : (dsL F k).length ≤ 20000 := by omega
          have HE := Lib.hid (show dsL F (k + 1) = dsL F k ++ I.toList ++ [58] ++ M.toList by rw [Hstep.out, if_pos HZ.out]; simp)
          obtain ⟨l, hl⟩ : ∃ l, l = dsL F k := ⟨_, rfl⟩
          rw [← hl] at HB HE hl2
          clear hl Hstep HZ hdN hdI
          go_wp2_with (first
            | (go_at_call 104; refine (CF.out _ hbel).mono ?_; rintro e w3 ⟨rfl, hb3⟩; have HB3 := Lib.hid (bld_below HB.out hb3); have hz3 := Nat.le_trans hz1 hb3.size; have hbel3 := hbel.trans (hb3.mono hbel.size); have hX3 := hX.below hb3 hX.lt; obtain ⟨y0, y1, y2, y3, _, _, _, _⟩ := hX3.four)
            | (go_at_call 106; refine (CI.out _ hbel3).mono ?_; rintro e w4 ⟨rfl, kk, os, hgr⟩; have hb4 : Below w3.heap.size w3 w4 := (by rw [hgr]; exact Lib.below_grow _ _ (Nat.le_refl _) _ _); clear hgr; have HB4 := Lib.hid (bld_below HB3.out hb4); have hz4 := Nat.le_trans hz3 hb4.size; have hbel4 := hbel3.trans (hb4.mono hbel3.size))
            | (go_at_call_of 105 (Value.string I); refine (wS_any b0 b0 l I _ HB4.out (by omega) (by omega) hz4).mono ?_; rintro e w5 ⟨rfl, hbd5, hb5⟩; have HB5 := Lib.hid hbd5; clear hbd5; have hz5 := Nat.le_trans hz4 hb5.size; have hbel5 := hbel4.trans (hb5.mono hwb))
            | (go_at_call 103; refine (wB_any b0 b0 (l ++ I.toList) 58 _ (by decide) _ HB5.out (by rw [List.length_append]; omega) hz5).mono ?_; rintro e w6 ⟨rfl, hbd6, hb6⟩; have HB6 := Lib.hid hbd6; clear hbd6; have hz6 := Nat.le_trans hz5 hb6.size; have hbel6 := hbel5.trans (hb6.mono hwb))
            | (go_at_call 105; refine (wS_any b0 b0 (l ++ I.toList ++ [58]) M _ HB6.out (by rw [List.length_append, List.length_append]; simp; omega) (by omega) hz6).mono ?_; rintro e w7 ⟨rfl, hbd7, hb7⟩; have HB7 := Lib.hid hbd7; clear hbd7; have hz7 := Nat.le_trans hz6 hb7.size; have hbel7 := hbel6.trans (hb7.mono hwb)))
          go_roundg (gk - 1)
          case measure => omega
          case rel => exact ⟨k + 1, by omega, by go_num, by rw [HE.out]; exact HB7.out, hz7, hbel7⟩
        · have hdN : decide (0 < k) = true := decide_eq_true (by omega)
          have hdI : decide ((0 : Int) < (k : Int)) = true := decide_eq_true (by omega)
          have HZ := Lib.hid hz
          clear hz
          go_upto_region 9 with (go_at_call 103; refine (writeByteK_any b0 b0 _ 32 _ HB.out (by rw [Lib.byteCells_length]; omega) hz1).mono ?_; rintro e w2 ⟨rfl, hbd2, hb2, hk2⟩; have hX2 := hk2 _ _ _ hX hTb (by decide))
          replace hX := hX2
          replace HB : Hid (Lib.IsBuilder 134 5 b0 b0 (Lib.byteCells (dsL F k ++ [32])) w2) := Lib.hid (by rw [Lib.byteCells_append]; exact .inr hbd2)
          replace hz1 := Nat.le_trans hz1 hb2.size
          replace hbel := hbel.trans (hb2.mono hwb)
          clear x0 x1 x2 x3 r0 r1 r2 r3 hX2 hbd2 hb2 hk2
          obtain ⟨x0, x1, x2, x3, _, _, _, _⟩ := hX.four
          have hl2 : (dsL F k ++ [32]).length ≤ 20000 := by simp; omega
          have HE := Lib.hid (show dsL F (k + 1) = dsL F k ++ [32] ++ I.toList ++ [58] ++ M.toList by rw [Hstep.out, if_neg HZ.out]; simp)
          obtain ⟨l, hl⟩ : ∃ l, l = dsL F k ++ [32] := ⟨_, rfl⟩
          rw [← hl] at HB HE hl2
          clear hl Hstep HZ hdN hdI
          go_wp2_with (first
            | (go_at_call 104; refine (CF.out _ hbel).mono ?_; rintro e w3 ⟨rfl, hb3⟩; have HB3 := Lib.hid (bld_below HB.out hb3); have hz3 := Nat.le_trans hz1 hb3.size; have hbel3 := hbel.trans (hb3.mono hbel.size); have hX3 := hX.below hb3 hX.lt; obtain ⟨y0, y1, y2, y3, _, _, _, _⟩ := hX3.four)
            | (go_at_call 106; refine (CI.out _ hbel3).mono ?_; rintro e w4 ⟨rfl, kk, os, hgr⟩; have hb4 : Below w3.heap.size w3 w4 := (by rw [hgr]; exact Lib.below_grow _ _ (Nat.le_refl _) _ _); clear hgr; have HB4 := Lib.hid (bld_below HB3.out hb4); have hz4 := Nat.le_trans hz3 hb4.size; have hbel4 := hbel3.trans (hb4.mono hbel3.size))
            | (go_at_call_of 105 (Value.string I); refine (wS_any b0 b0 l I _ HB4.out (by omega) (by omega) hz4).mono ?_; rintro e w5 ⟨rfl, hbd5, hb5⟩; have HB5 := Lib.hid hbd5; clear hbd5; have hz5 := Nat.le_trans hz4 hb5.size; have hbel5 := hbel4.trans (hb5.mono hwb))
            | (go_at_call 103; refine (wB_any b0 b0 (l ++ I.toList) 58 _ (by decide) _ HB5.out (by rw [List.length_append]; omega) hz5).mono ?_; rintro e w6 ⟨rfl, hbd6, hb6⟩; have HB6 := Lib.hid hbd6; clear hbd6; have hz6 := Nat.le_trans hz5 hb6.size; have hbel6 := hbel5.trans (hb6.mono hwb))
            | (go_at_call 105; refine (wS_any b0 b0 (l ++ I.toList ++ [58]) M _ HB6.out (by rw [List.length_append, List.length_append]; simp; omega) (by omega) hz6).mono ?_; rintro e w7 ⟨rfl, hbd7, hb7⟩; have HB7 := Lib.hid hbd7; clear hbd7; have hz7 := Nat.le_trans hz6 hb7.size; have hbel7 := hbel6.trans (hb7.mono hwb)))
          go_roundg (gk - 1)
          case measure => omega
          case rel => exact ⟨k + 1, by omega, by go_num, by rw [HE.out]; exact HB7.out, hz7, hbel7⟩
      · obtain rfl : k = n := by omega
        have hres : r = .tuple #[.string ⟨(dsL F k).toArray⟩, .bool true] := by rw [Hr.out]; unfold fdRes; rw [if_pos HV.out]; rfl
        have Hres := Lib.hid hres
        clear hres
        go_wp2_with (go_at_call 107; refine (Tryz.Builder_String_any _ _ _ _ HB.out hz1).mono ?_; rintro e w5 ⟨rfl, hb5⟩; have hB5 := hbel.trans (hb5.mono hwb))
        go_ret2
        exact ⟨by rw [Hres.out]; rfl, hB5⟩

theorem fdRes_shape (F : Nat → Int × Bool × ByteArray × ByteArray) (n : Nat) : ∃ t c, fdRes F n = .tuple #[.string t, .bool c] := by
  unfold fdRes
  split
  · exact ⟨_, _, rfl⟩
  · exact ⟨_, _, rfl⟩

set_option maxRecDepth 100000 in
set_option maxHeartbeats 3200000 in
theorem lawFmtD_any (A0 : Option Addr) (n cap : Nat) (F : Nat → Int × Bool × ByteArray × ByteArray) (w : World) (hn : n ≤ 9223372036854775807) (hA : PtAt w A0 n F) (hs : ∀ j, j < n → (F j).2.2.1.size ≤ 9223372036854775807 ∧ (F j).2.2.2.size ≤ 9223372036854775807) (hU : UnitB w) (hT : Tab64 w) (hP : TabP w) :
    Calls Tryz.prog 13 #[.agg #[.slice A0 n cap]] w fun e w' => e = .returned (.bool true) ∧ Below w.heap.size w w' := by
  have CZ : Hid (∀ W, Below w.heap.size w W → _) := Lib.hid fun W hW => szDist_any A0 n cap F W hn (hA.below hW (Nat.le_refl _)) hs
  have hD := Box.new w 24 #[.slice A0 n cap]
  have hB := (Below.refl w.heap.size w).alloc (Nat.le_refl _) (.cells #[.slice A0 n cap] 24)
  have hd0 := hD.cell 0
  by_cases h : n ≤ 1048576
  · obtain ⟨r, hr⟩ : ∃ r, r = fdRes F n := ⟨_, rfl⟩
    have CT : Hid (∀ W, Below w.heap.size w W → _) := Lib.hid fun W hW => toDist_any A0 n cap F W h (hA.below hW (Nat.le_refl _))
    have CS : Hid (∀ (A1 : Option Addr) (c1 : Nat) W, PtAt W A1 n F → _) := Lib.hid fun A1 c1 W g => fdS_any A1 n c1 F W h g hs
    have CM : Hid (∀ (A1 : Option Addr) (c1 : Nat) W, Below w.heap.size w W → PtAt W A1 n F → _) := Lib.hid fun A1 c1 W hW g => fdI_any A1 n c1 F W h g hs (hU.below hW) (hT.below hW) (staysP.below _ _ hP hW)
    rw [← hr] at CS CM
    obtain ⟨tx, rc, hres⟩ := fdRes_shape F n
    rw [← hr] at hres
    rw [hres] at CS CM
    have hcc : (!rc == rc) = false := by cases rc <;> rfl
    have htt : (tx.toList == tx.toList) = true := by rw [beq_iff_eq]
    clear hr hres hU hT hP hs hA
    go_enter Tryz.func13, Tryz.ntmps13
    go_upto_region 6 with (first
      | (go_at_call 16; refine (CZ.out _ hB).mono ?_; rintro e w1 ⟨⟨m, rfl, hm1, hm2, hm3⟩, hb1⟩; clear hm3; have hB1 := hB.trans (hb1.mono hB.size); have hD1 := hD.below hb1 hD.lt; have hd1 := hD1.cell 0)
      | (go_at_call 18; refine (CT.out _ hB1).mono ?_; rintro e w2 ⟨⟨g2, rfl, hg2⟩, hb2⟩; have hB2 := hB1.trans (hb2.mono hB1.size); have hD2 := hD1.below hb2 hD1.lt)
      | (go_at_call 47; refine (CS.out _ _ _ hg2).mono ?_; rintro e w3 ⟨rfl, hb3⟩; have hB3 := hB2.trans (hb3.mono hB2.size); have hD3 := hD2.below hb3 hD2.lt; clear hg2; have hd3 := hD3.cell 0))
    · go_ret
      exact ⟨rfl, hB1⟩
    go_upto_region 7 with (go_at_call 18; refine (CT.out _ hB3).mono ?_; rintro e w4 ⟨⟨g4, rfl, hg4⟩, hb4⟩; have hB4 := (hB3.trans (hb4.mono hB3.size)).alloc (hB3.trans (hb4.mono hB3.size)).size (.cells #[.slice (some ⟨g4, 0, none⟩) n n] 32); have hD4 := (hD3.below hb4 hD3.lt).alloc (.cells #[.slice (some ⟨g4, 0, none⟩) n n] 32); have hE := Box.new w4 32 #[.slice (some ⟨g4, 0, none⟩) n n]; replace hg4 := hg4.below ((Below.refl w4.heap.size w4).alloc (Nat.le_refl _) (.cells #[.slice (some ⟨g4, 0, none⟩) n n] 32)) (Nat.le_refl _))
    obtain ⟨G, hG⟩ : ∃ G, G = w4.heap.size := ⟨_, rfl⟩
    rw [← hG] at hE ⊢
    obtain ⟨W4, hW⟩ : ∃ W, W = w4.alloc (.cells #[.slice (some ⟨g4, 0, none⟩) n n] 32) := ⟨_, rfl⟩
    rw [← hW] at hB4 hD4 hE hg4 ⊢
    clear hW hG hb4 hB3 hD3 hd3 hD2 hB2 hb3 hb2 hB1 hD1 hd1 hb1 hd0
    have he0 := hE.cell 0
    go_upto_region 10 with (go_at_call 48; refine (CM.out _ _ _ hB4 hg4).mono ?_; rintro e w6 ⟨rfl, hb6⟩; have hB6 := hB4.trans (hb6.mono hB4.size); replace hD4 := hD4.below hb6 hD4.lt; replace hE := hE.below hb6 hE.lt; have hg5 := hg4.below hb6 (Nat.le_refl _); have he6 := hE.cell 0; have hd6 := hD4.cell 0)
    go_region_with (first
      | (go_at_call 18; refine (CT.out _ hB6.drew).mono ?_; rintro e w7 ⟨⟨g7, rfl, hg7⟩, hb7⟩; have hB7 := hB6.drew.trans (hb7.mono hB6.drew.size); have he7 := (Box.below (w := w6.drew) hE hb7 hE.lt).cell 0)
      | (go_at_call 21; refine (eqDist_any _ _ n _ _ F _ h ((hg5.below (Below.refl _ w6).drew (Nat.le_refl _)).below hb7 (Nat.le_refl _)) hg7).mono ?_; rintro e w8 ⟨rfl, hb8⟩; have hB8 := hB7.trans (hb8.mono hB7.size)))
    all_goals go_wp2_with fail
    all_goals go_ret
    all_goals exact ⟨rfl, hB8⟩
  · go_enter Tryz.func13, Tryz.ntmps13
    go_wp2_with (go_at_call 16; refine (CZ.out _ hB).mono ?_; rintro e w1 ⟨⟨m, rfl, hm1, hm2, hm3⟩, hb1⟩; obtain hm0 : m < 0 := (by omega); have hB1 := hB.trans (hb1.mono hB.size))
    all_goals go_ret
    all_goals exact ⟨rfl, hB1⟩

end Go.Proofs.YtlfghhmphgidjaaGreatDoor
