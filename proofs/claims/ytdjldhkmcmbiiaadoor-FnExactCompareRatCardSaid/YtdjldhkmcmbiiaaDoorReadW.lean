/-
  The program's reading of a numeral into a block of words.
-/
import Derived.Test.YtdjldhkmcmbiiaaDoorBlock
import Derived.Test.YtdjldhkmcmbiiaaDoorNumerals
import Derived.Deep.DeepCutAuto
namespace Go.Proofs.YtdjldhkmcmbiiaaDoor
open Go.RowKit Num

/-- Digit j of a text. -/
def dgt (s : ByteArray) (j : Nat) : Nat := byt s j - 48

/-- The number that a numeral says. -/
def numOf (s : ByteArray) : Nat := Read.rd (dgt s) s.size

theorem isNum_parts {s : ByteArray} (h : isNum s = true) : (1 ≤ s.size ∧ s.size ≤ 120) ∧ (∀ j, j < s.size → 48 ≤ byt s j ∧ byt s j ≤ 57) ∧ (byt s 0 ≠ 48 ∨ s.size = 1) := by
  unfold isNum at h
  exact of_decide_eq_true h

theorem pow120 : (10 : Nat) ^ 120 ≤ WB ^ 7 := by unfold WB; decide

theorem rd_bound {s : ByteArray} (h : isNum s = true) (k : Nat) (hk : k ≤ s.size) : Read.rd (dgt s) k < WB ^ 7 := by
  obtain ⟨h1, h2, _⟩ := isNum_parts h
  have h3 := Read.rd_lt (dgt s) k fun j hj => by have := h2 j (by omega); unfold dgt; omega
  have h4 : (10 : Nat) ^ k ≤ 10 ^ 120 := Nat.pow_le_pow_right (by omega) (by omega)
  have := pow120
  omega

theorem numOf_lt {s : ByteArray} (h : isNum s = true) : numOf s < 10 ^ 120 := by
  obtain ⟨h1, h2, _⟩ := isNum_parts h
  have h3 := Read.rd_lt (dgt s) s.size fun j hj => by have := h2 j (by omega); unfold dgt; omega
  have h4 : (10 : Nat) ^ s.size ≤ 10 ^ 120 := Nat.pow_le_pow_right (by omega) (by omega)
  unfold numOf
  omega

set_option maxRecDepth 100000 in
set_option maxHeartbeats 1600000 in
theorem numBlock_no (s : ByteArray) (w : World) (h : isNum s = false) (hs : s.size ≤ 9223372036854775807) :
    Calls Tryd.prog 80 #[.string s] w fun e w' => e = .returned (.tuple #[blk 0 0 0 0 0 0 0, .bool false]) ∧ Below w.heap.size w w' := by
  have c1 := fun W => numeralW_any s W hs
  rw [h] at c1
  have C1 := Lib.hid c1
  clear c1 h
  go_enter Tryd.func80, Tryd.ntmps80
  go_wp2_with (go_at_call 116; refine (C1.out _).mono ?_; rintro e w' ⟨rfl, nq, rfl⟩)
  have hz := Box.new w 102 #[.int .u64 0, .int .u64 0, .int .u64 0, .int .u64 0, .int .u64 0, .int .u64 0, .int .u64 0]
  obtain ⟨k0, k1, k2, k3, k4, k5, k6⟩ := ((show Box ((w.alloc _).drewN nq) w.heap.size 102 _ from hz).put7 (.int .u64 0) (.int .u64 0) (.int .u64 0) (.int .u64 0) (.int .u64 0) (.int .u64 0) (.int .u64 0)).seven
  refine bodyPost_ret (v := .tuple #[.agg #[.int .u64 0, .int .u64 0, .int .u64 0, .int .u64 0, .int .u64 0, .int .u64 0, .int .u64 0], .bool false]) (by simp [results, Tryd.results80, go_sem, k0, k1, k2, k3, k4, k5, k6]; done) rfl ?_
  exact ⟨rfl, below_put7 (below_drewN nq ((Below.refl _ w).alloc (Nat.le_refl _) _)) (Nat.le_refl _) _ _ _ _ _ _ _⟩

set_option maxRecDepth 100000 in
set_option maxHeartbeats 1200000 in
theorem numBlock_yes (s : ByteArray) (w : World) (h : isNum s = true) (hs : s.size ≤ 9223372036854775807) :
    Calls Tryd.prog 80 #[.string s] w fun e w' => (∃ l0 l1 l2 l3 l4 l5 l6, e = .returned (.tuple #[blk l0 l1 l2 l3 l4 l5 l6, .bool true]) ∧ Dig WB [l0, l1, l2, l3, l4, l5, l6] ∧ val WB [l0, l1, l2, l3, l4, l5, l6] = numOf s) ∧ Below w.heap.size w w' := by
  have c1 := fun W => numeralW_any s W hs
  rw [h] at c1
  have C1 := Lib.hid c1
  have H := Lib.hid h
  obtain ⟨hsz, hdg, _⟩ := isNum_parts h
  have Hdg := Lib.hid hdg
  clear c1 h hdg
  go_enter Tryd.func80, Tryd.ntmps80
  go_wp2_with (go_at_call 116; refine (C1.out _).mono ?_; rintro e w' ⟨rfl, nq, rfl⟩)
  go_loopw [5] (fun i wr => ∃ (st a0 a1 a2 a3 a4 a5 a6 : Nat), i = .int .i64 (st : Nat) ∧ st ≤ s.size + 18 ∧ Dig WB [a0, a1, a2, a3, a4, a5, a6] ∧ val WB [a0, a1, a2, a3, a4, a5, a6] = Read.rd (dgt s) (min st s.size) ∧
      Box wr (w.heap.size + 1) 102 #[.int .u64 (a0 : Nat), .int .u64 (a1 : Nat), .int .u64 (a2 : Nat), .int .u64 (a3 : Nat), .int .u64 (a4 : Nat), .int .u64 (a5 : Nat), .int .u64 (a6 : Nat)] ∧
      Box wr w.heap.size 102 #[.int .u64 0, .int .u64 0, .int .u64 0, .int .u64 0, .int .u64 0, .int .u64 0, .int .u64 0] ∧ Below w.heap.size w wr) (fun i _ => (s.size + 18) - (intOf i).toNat)
  case atStart =>
    refine ⟨0, 0, 0, 0, 0, 0, 0, 0, rfl, by omega, ?_, by simp [val, Read.rd, Read.seg], ?_, ?_, ?_⟩
    · intro x hx
      simp only [List.mem_cons, List.not_mem_nil, or_false] at hx
      rcases hx with rfl | rfl | rfl | rfl | rfl | rfl | rfl <;> (unfold WB; omega)
    · have hz : ∀ k : Nat, (((w.alloc (Obj.cells #[.int .u64 0, .int .u64 0, .int .u64 0, .int .u64 0, .int .u64 0, .int .u64 0, .int .u64 0] 102)).drewN k)).heap.size = w.heap.size + 1 := fun k => by show (w.alloc _).heap.size = _; simp
      rw [← hz]
      exact Box.new _ _ _
    · exact (show Box ((w.alloc _).drewN nq) w.heap.size 102 _ from Box.new w 102 #[.int .u64 0, .int .u64 0, .int .u64 0, .int .u64 0, .int .u64 0, .int .u64 0, .int .u64 0]).alloc _
    · exact (below_drewN _ ((Below.refl _ w).alloc (Nat.le_refl _) _)).alloc (by simp) _
  case round =>
    obtain ⟨st, a0, a1, a2, a3, a4, a5, a6, rfl, hst, hdig, hval, hbox, hres, hbel⟩ := hrel
    by_cases hlt : st < s.size
    · have Hval := Lib.hid hval; clear hval
      have Hdig := Lib.hid hdig; clear hdig
      obtain ⟨c0, c1, c2, c3, c4, c5, c6⟩ := hbox.seven
      have Hbox := Lib.hid hbox; clear hbox
      have Hres := Lib.hid hres; clear hres
      have Hbel := Lib.hid hbel; clear hbel
      go_wp2_with fail
      go_loop [6, 7, 8] (fun a b c => ∃ (i ch sc : Nat), a = .int .u64 (ch : Nat) ∧ b = .int .u64 (sc : Nat) ∧ c = .int .i64 (i : Nat) ∧ st ≤ i ∧ i ≤ st + 19 ∧ i ≤ s.size ∧ ch = Read.seg (dgt s) st (i - st) ∧ sc = 10 ^ (i - st)) (fun _ _ c => s.size - (intOf c).toNat)
      case atStart => exact ⟨st, 0, 1, rfl, rfl, rfl, by omega, by omega, by omega, by simp [Read.seg], by simp⟩
      case round =>
        obtain ⟨i, ch, sc, rfl, rfl, rfl, h1, h3, h4, hch, hsc⟩ := hrel
        have Hch := Lib.hid hch; clear hch
        have Hsc := Lib.hid hsc; clear hsc
        by_cases hgo : i < st + 19 ∧ i < s.size
        · obtain ⟨h5, h6⟩ := hgo
          have hb := byt_eq s i h6
          have hd := Hdg.out i h6
          have hst2 : Hid (Read.seg (dgt s) st (i + 1 - st) = 10 * ch + dgt s i) := Lib.hid (by
            rw [show i + 1 - st = (i - st) + 1 by omega, Read.seg, Hch.out, show st + (i - st) = i by omega])
          have hchb : ch < 1000000000000000000 := by
            rw [Hch.out]
            have h7 := Read.seg_lt (dgt s) st (i - st) fun j hj1 hj2 => by have := Hdg.out j (by omega); unfold dgt; omega
            have h8 : (10 : Nat) ^ (i - st) ≤ 10 ^ 18 := Nat.pow_le_pow_right (by omega) (by omega)
            omega
          have hscb : sc ≤ 1000000000000000000 := by
            rw [Hsc.out]
            have h8 : (10 : Nat) ^ (i - st) ≤ 10 ^ 18 := Nat.pow_le_pow_right (by omega) (by omega)
            omega
          have hsc2 : Hid (sc * 10 = 10 ^ (i + 1 - st)) := Lib.hid (by rw [show i + 1 - st = (i - st) + 1 by omega, Nat.pow_succ, Hsc.out])
          have hv : IntKind.u64.wrap (IntKind.u64.wrap ((ch : Int) * 10) + ((s[i].toNat : Int) - 48) % 256) = ((10 * ch + dgt s i : Nat) : Int) := by
            unfold dgt
            simp only [IntKind.wrap_u64]
            omega
          have hw : IntKind.u64.wrap ((sc : Int) * 10) = ((sc * 10 : Nat) : Int) := by
            simp only [IntKind.wrap_u64]
            omega
          have Hv := Lib.hid hv
          have Hw := Lib.hid hw
          clear hb hd hchb hscb hv hw
          go_wp2_with fail
          refine ⟨⟨i + 1, 10 * ch + dgt s i, sc * 10, ?_, ?_, by go_num, by omega, by omega, by omega, hst2.out.symm, hsc2.out⟩, by simp [intOf]; omega⟩
          · rw [Hv.out]
          · rw [Hw.out]
        · have hie : i = min (st + 19) s.size := by omega
          have hm : ¬ (i : Int) < min ((st : Int) + 19) (s.size : Int) := by omega
          have hchb : ch < WB := by
            rw [Hch.out]
            have h7 := Read.seg_lt (dgt s) st (i - st) fun j hj1 hj2 => by have := Hdg.out j (by omega); unfold dgt; omega
            have h8 : (10 : Nat) ^ (i - st) ≤ 10 ^ 19 := Nat.pow_le_pow_right (by omega) (by omega)
            unfold WB
            omega
          have hscb : sc < WB := by
            rw [Hsc.out]
            have h8 : (10 : Nat) ^ (i - st) ≤ 10 ^ 19 := Nat.pow_le_pow_right (by omega) (by omega)
            unfold WB
            omega
          have hjoin : val WB [a0, a1, a2, a3, a4, a5, a6] * sc + ch = Read.rd (dgt s) (min (st + 19) s.size) := by
            rw [Hval.out, Hch.out, Hsc.out, Nat.min_eq_left (Nat.le_of_lt hlt), ← Read.rd_join, ← hie]
            congr 1
            omega
          have c2 := fun W => scaledPlus_any a0 a1 a2 a3 a4 a5 a6 sc ch W Hdig.out hscb hchb (by rw [hjoin]; exact rd_bound H.out _ (Nat.min_le_right _ _))
          rw [hjoin] at c2
          unfold blk at c2
          have C2 := Lib.hid c2
          have Hie := Lib.hid hie
          clear hie hchb hscb hjoin c2 hgo
          go_wp2_with fail
          refine (C2.out _).mono ?_
          rintro e w1 ⟨⟨l0, l1, l2, l3, l4, l5, l6, rfl, hd2, hv2⟩, hb1⟩
          have hbx1 := (Hbox.out.below hb1 Hbox.out.lt).put7 (.int .u64 (l0 : Nat)) (.int .u64 (l1 : Nat)) (.int .u64 (l2 : Nat)) (.int .u64 (l3 : Nat)) (.int .u64 (l4 : Nat)) (.int .u64 (l5 : Nat)) (.int .u64 (l6 : Nat))
          have hbl1 := below_put7 (G := w.heap.size + 1) (Hbel.out.trans (hb1.mono Hbel.out.size)) (Nat.le_succ _) (.int .u64 (l0 : Nat)) (.int .u64 (l1 : Nat)) (.int .u64 (l2 : Nat)) (.int .u64 (l3 : Nat)) (.int .u64 (l4 : Nat)) (.int .u64 (l5 : Nat)) (.int .u64 (l6 : Nat))
          have hbw := below_put7 (G := w.heap.size + 1) (B := w.heap.size + 1) (Below.refl _ w1) (Nat.le_refl _) (.int .u64 (l0 : Nat)) (.int .u64 (l1 : Nat)) (.int .u64 (l2 : Nat)) (.int .u64 (l3 : Nat)) (.int .u64 (l4 : Nat)) (.int .u64 (l5 : Nat)) (.int .u64 (l6 : Nat))
          have hrs1 := (Hres.out.below hb1 Hres.out.lt).below hbw (Nat.lt_succ_self _)
          have hbxw := Hbox.out.below hb1 Hbox.out.lt
          obtain ⟨q0, q1, q2, q3, q4, q5, q6⟩ := hbxw.seven
          have fz := fun i => hbxw.free i
          have g0 := fz 0
          have g1 := fz 1
          have g2 := fz 2
          have g3 := fz 3
          have g4 := fz 4
          have g5 := fz 5
          have g6 := fz 6
          clear fz hbxw
          have Hbx1 := Lib.hid hbx1
          have Hbl1 := Lib.hid hbl1
          have Hrs1 := Lib.hid hrs1
          have Hd2 := Lib.hid hd2
          have Hv2 := Lib.hid hv2
          clear hbx1 hbl1 hbw hrs1 hd2 hv2 hb1
          go_wp2_with fail
          go_roundw
          case rel => exact ⟨st + 19, l0, l1, l2, l3, l4, l5, l6, by go_num, by omega, Hd2.out, Hv2.out, Hbx1.out, Hrs1.out, Hbl1.out⟩
          case measure => simp [intOf]; omega
    · obtain ⟨c0, c1, c2, c3, c4, c5, c6⟩ := hbox.seven
      have hv : val WB [a0, a1, a2, a3, a4, a5, a6] = numOf s := by rw [hval, Nat.min_eq_right (by omega)]; rfl
      have Hv := Lib.hid hv
      have Hdig := Lib.hid hdig
      have Hres := Lib.hid hres
      have Hbel := Lib.hid hbel
      clear hval hv hdig hres hbel hbox
      obtain ⟨q0, q1, q2, q3, q4, q5, q6⟩ := Hres.out.seven
      have g0 := Hres.out.free 0
      have g1 := Hres.out.free 1
      have g2 := Hres.out.free 2
      have g3 := Hres.out.free 3
      have g4 := Hres.out.free 4
      have g5 := Hres.out.free 5
      have g6 := Hres.out.free 6
      go_wp2_with fail
      obtain ⟨k0, k1, k2, k3, k4, k5, k6⟩ := (Hres.out.put7 (.int .u64 (a0 : Nat)) (.int .u64 (a1 : Nat)) (.int .u64 (a2 : Nat)) (.int .u64 (a3 : Nat)) (.int .u64 (a4 : Nat)) (.int .u64 (a5 : Nat)) (.int .u64 (a6 : Nat))).seven
      refine bodyPost_ret (v := .tuple #[.agg #[.int .u64 (a0 : Nat), .int .u64 (a1 : Nat), .int .u64 (a2 : Nat), .int .u64 (a3 : Nat), .int .u64 (a4 : Nat), .int .u64 (a5 : Nat), .int .u64 (a6 : Nat)], .bool true]) (by simp [results, Tryd.results80, go_sem, k0, k1, k2, k3, k4, k5, k6]; done) rfl ?_
      exact ⟨⟨a0, a1, a2, a3, a4, a5, a6, rfl, Hdig.out, Hv.out⟩, below_put7 Hbel.out (Nat.le_refl _) _ _ _ _ _ _ _⟩

end Go.Proofs.YtdjldhkmcmbiiaaDoor
