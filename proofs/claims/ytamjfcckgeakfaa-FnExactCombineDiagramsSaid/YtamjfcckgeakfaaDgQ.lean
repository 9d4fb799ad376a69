/-
  Decision diagrams, the model: the table.
-/
import Derived.Test.YtamjfcckgeakfaaDgP
namespace Go.Proofs.Ytamjfcckgeakfaa
open Go.RowKit Num

theorem Try.infoByteDg : (Try.prog.info? 5).map (fun i => (i.zero, i.size, i.bytes)) = some (some (.int .u8 0), 1, 1) := by kernel_rfl

theorem mk_bytes (n : Nat) (hn : n ≤ 1048576) (w : World) :
    (Instr.makeSlice 43 (.int .i64 (n : Int)) (.int .i64 (n : Int))).run Try.prog w = .ok (.slice (some ⟨w.heap.size, 0, none⟩) n n) (w.alloc (.cells (madeCells #[.int .u8 0] n) 5)) := by
  obtain ⟨i, hi, hzz⟩ := Option.map_eq_some_iff.1 Try.infoByteDg
  simp only [Prod.mk.injEq] at hzz
  obtain ⟨hz, hs, hb⟩ := hzz
  have hr := run_make (P := Try.prog) w 43 5 i _ Try.underlying43 hi hz .i64 .i64 n n (by omega) (Int.le_refl _) (by rw [hb]; omega) (by omega)
  simp only [Int.toNat_natCast, hs, Value.cells, Nat.mul_one] at hr
  exact hr

/-- The bytes of a table. -/
def tbB (T : Nat → Bool) (n : Nat) : List UInt8 := (List.range n).map fun j => if T j then 49 else 48
/-- A table as a text. -/
def tbS (T : Nat → Bool) (n : Nat) : ByteArray := ⟨(tbB T n).toArray⟩
theorem tbB_len (T : Nat → Bool) (n : Nat) : (tbB T n).length = n := by simp [tbB]


theorem wrap64_small {x : Int} (h0 : 0 ≤ x) (h1 : x ≤ 1048576) : wrap64 x = x := by
  unfold wrap64
  omega

theorem held3q {W W' : World} {p0 p1 p2 : Prop} (h : p0 ∧ p1 ∧ p2 ∧ Below W.heap.size W W') : Below W.heap.size W W' := h.2.2.2

set_option maxRecDepth 100000 in
set_option maxHeartbeats 6400000 in
theorem specTable_any (lo : Nat) (L : Int) (r n c : Nat) (A0 : Option Addr) (f : Nat → Int) (w : World) (hs : ShpI L n f) (h0L : 0 ≤ L) (hL : L ≤ 10) (hn : n ≤ 1048576) (hr : r < n + 2) (h0 : IntsAt lo w A0 (n * 3) f) :
    Calls Try.prog 43 #[dgV L A0 n c (r : Nat)] w fun e w' => e = .returned (.string (tbS (Dg.ev (ndl n f) L.toNat L.toNat r) (2 ^ L.toNat))) ∧ Below w.heap.size w w' := by
  have hP := Box.new w 28 #[.int .i64 L, .slice A0 n c, .int .i64 (r : Nat)]
  have hB := (Below.refl w.heap.size w).alloc (Nat.le_refl _) (.cells #[.int .i64 L, .slice A0 n c, .int .i64 (r : Nat)] 28)
  obtain ⟨q0, q1, q2⟩ := hP.trio
  have H0 := Lib.hid h0; clear h0
  have HS := Lib.hid hs; clear hs
  have hpw : 2 ^ L.toNat ≤ 1024 := Nat.le_trans (Nat.pow_le_pow_right (by omega) (show L.toNat ≤ 10 by omega)) (by decide)
  have CA : Hid (∀ (i : Nat) W, Below w.heap.size w W → _) := Lib.hid fun i W hW => specAt_any lo L r n c i A0 f W HS.out h0L hL hn hr (H0.out.below hW (Nat.le_refl _))
  have CN : Hid (∀ (i : Nat) W, i ≤ 1048576 → _) := Lib.hid fun i W hi => specNum_any i L.toNat W hi (by omega)
  rw [show ((L.toNat : Nat) : Int) = L by omega] at CN
  generalize hT : Dg.ev (ndl n f) L.toNat L.toNat r = T at CA ⊢
  clear hT
  have hmk := mk_bytes (2 ^ L.toNat) (by omega)
  have ec : IntKind.u64.wrap L = L := IntWalk.u64_in _ (by omega)
  have e2p : (2 : Int) ^ L.toNat = ((2 ^ L.toNat : Nat) : Int) := by simp
  have ew : wrap64 ((2 : Int) ^ L.toNat) = ((2 ^ L.toNat : Nat) : Int) := by rw [e2p]; exact wrap64_small (Int.natCast_nonneg _) (Int.ofNat_le.2 (Nat.le_trans hpw (by decide)))
  clear e2p
  generalize hM : 2 ^ L.toNat = M at hpw hmk ew ⊢
  clear hM
  go_enter Try.func43, Try.ntmps43
  go_wp2_with fail
  clear hmk ew ec q0 q1 q2
  have hG := Box.new (w.alloc (.cells #[.int .i64 L, .slice A0 n c, .int .i64 (r : Nat)] 28)) 5 (madeCells #[.int .u8 0] M)
  rw [show (w.alloc (.cells #[.int .i64 L, .slice A0 n c, .int .i64 (r : Nat)] 28)).heap.size = w.heap.size + 1 by simp] at hG
  replace hP := hP.alloc (.cells (madeCells #[.int .u8 0] M) 5)
  replace hB := hB.alloc (by simp) (.cells (madeCells #[.int .u8 0] M) 5)
  generalize hW : World.alloc _ _ = W0 at hP hB hG ⊢
  clear hW
  go_loopg [12] M (fun q iv wr => ∃ (k : Nat) (cs : Array Value), k + q = M ∧ iv = .int .i64 (k : Nat) ∧ cs.size = M ∧ Hid (∀ j, j < k → cs[j]? = some (.int .u8 (if T j then 49 else 48))) ∧ Box wr (w.heap.size + 1) 5 cs ∧ Box wr w.heap.size 28 #[.int .i64 L, .slice A0 n c, .int .i64 (r : Nat)] ∧ Below w.heap.size w wr)
  case atStart => exact ⟨0, _, by omega, rfl, size_madeCells _ _, Lib.hid fun j h => by omega, hG, hP, hB⟩
  case round =>
    clear hP hB hG
    obtain ⟨k, cs, hk, rfl, hcs, hf, hG, hP, hB⟩ := hrel
    by_cases hk0 : k < M
    · have g0 := hG.cell k
      rw [Array.getElem?_eq_getElem (show k < cs.size by omega)] at g0
      have gf := hG.free k
      go_upto_region 6 with fail
      have hG1 := hG.set k (.int .u8 48)
      have hP1 := hP.far3 (show w.heap.size + 1 ≠ w.heap.size by omega) k (.int .u8 48)
      have hB1 := hB.setCell (p := ⟨w.heap.size + 1, k, none⟩) (by show w.heap.size ≤ w.heap.size + 1; omega) (.int .u8 48)
      clear g0 gf hG hP hB
      generalize hW1 : World.setCell _ _ _ = W1 at hG1 hP1 hB1 ⊢
      clear hW1
      obtain ⟨q0, q1, q2⟩ := hP1.trio
      have HB1 := Lib.hid hB1
      have HG1 := Lib.hid hG1
      have HP1 := Lib.hid hP1
      have hPl := hP1.lt
      clear hB1 hG1 hP1
      cases hTk : T k
      · have CB : Hid (∀ W, Below w.heap.size w W → Calls Try.prog 68 #[dgV L A0 n c (r : Nat), .string ⟨(bin L.toNat k).toArray⟩] W fun e w' => e = .returned (.bool false) ∧ Below W.heap.size W w') := Lib.hid fun W hW => by have := CA.out k W hW; rw [hTk] at this; exact this
        have HTK := Lib.hid hTk
        clear hTk
        go_region_held3 (fun w' => w'.cell? ⟨w.heap.size, 0, none⟩ = some (.int .i64 L) ∧ w'.cell? ⟨w.heap.size, 1, none⟩ = some (.slice A0 n c) ∧ w'.cell? ⟨w.heap.size, 2, none⟩ = some (.int .i64 (r : Nat)) ∧ Below W1.heap.size W1 w')
          ((suffices hBB : Below W1.heap.size W1 _ from ⟨(hBB.cell hPl).trans q0, (hBB.cell hPl).trans q1, (hBB.cell hPl).trans q2, hBB⟩; first | exact (Below.refl _ W1).drew | exact held3q (by assumption) | (refine stepB (held3q (by assumption)) ?_; assumption)))
          (first
            | (go_at_call 67; with_reducible refine (CN.out k _ (by omega)).mono ?_; rintro e w3 ⟨rfl, hb3⟩)
            | (go_at_call 68; with_reducible refine (CB.out _ ?_).mono ?_; exact HB1.out.trans (Below.mono (held3q (by assumption)) HB1.out.size); rintro e w4 ⟨rfl, hb4⟩))
        have hbw : Below W1.heap.size W1 w4 := held3q (by assumption)
        have hG4 := HG1.out.below hbw HG1.out.lt
        have hP4 := HP1.out.below hbw HP1.out.lt
        have hB4 := HB1.out.trans (hbw.mono HB1.out.size)
        go_wp2_with fail
        go_roundg (gk - 1)
        case rel => exact ⟨k + 1, _, by omega, by go_num, by simp; omega, Lib.hid fun j hj => by
          rw [Array.getElem?_setIfInBounds]
          by_cases hjk : j < k
          · rw [if_neg (by omega)]; exact hf.out j hjk
          · obtain rfl : j = k := by omega
            rw [if_pos rfl, if_pos (by omega), HTK.out]; rfl, hG4, hP4, hB4⟩
        case measure => omega
      · have CB : Hid (∀ W, Below w.heap.size w W → Calls Try.prog 68 #[dgV L A0 n c (r : Nat), .string ⟨(bin L.toNat k).toArray⟩] W fun e w' => e = .returned (.bool true) ∧ Below W.heap.size W w') := Lib.hid fun W hW => by have := CA.out k W hW; rw [hTk] at this; exact this
        have HTK := Lib.hid hTk
        clear hTk
        go_region_held3 (fun w' => w'.cell? ⟨w.heap.size, 0, none⟩ = some (.int .i64 L) ∧ w'.cell? ⟨w.heap.size, 1, none⟩ = some (.slice A0 n c) ∧ w'.cell? ⟨w.heap.size, 2, none⟩ = some (.int .i64 (r : Nat)) ∧ Below W1.heap.size W1 w')
          ((suffices hBB : Below W1.heap.size W1 _ from ⟨(hBB.cell hPl).trans q0, (hBB.cell hPl).trans q1, (hBB.cell hPl).trans q2, hBB⟩; first | exact (Below.refl _ W1).drew | exact held3q (by assumption) | (refine stepB (held3q (by assumption)) ?_; assumption)))
          (first
            | (go_at_call 67; with_reducible refine (CN.out k _ (by omega)).mono ?_; rintro e w3 ⟨rfl, hb3⟩)
            | (go_at_call 68; with_reducible refine (CB.out _ ?_).mono ?_; exact HB1.out.trans (Below.mono (held3q (by assumption)) HB1.out.size); rintro e w4 ⟨rfl, hb4⟩))
        have hbw : Below W1.heap.size W1 w4 := held3q (by assumption)
        have hG4 := HG1.out.below hbw HG1.out.lt
        have hP4 := HP1.out.below hbw HP1.out.lt
        have hB4 := HB1.out.trans (hbw.mono HB1.out.size)
        have g0 := hG4.cell k
        rw [Array.getElem?_eq_getElem (show k < (cs.setIfInBounds k (Value.int .u8 48)).size by simp; omega)] at g0
        have gf := hG4.free k
        go_wp2_with fail
        go_roundg (gk - 1)
        case rel => exact ⟨k + 1, _, by omega, by go_num, by simp; omega, Lib.hid fun j hj => by
          rw [Array.getElem?_setIfInBounds, Array.getElem?_setIfInBounds]
          by_cases hjk : j < k
          · rw [if_neg (by omega), if_neg (by omega)]; exact hf.out j hjk
          · obtain rfl : j = k := by omega
            rw [if_pos rfl, if_pos (by simp; omega), HTK.out]; rfl, hG4.set k (.int .u8 49), hP4.far3 (show w.heap.size + 1 ≠ w.heap.size by omega) k (.int .u8 49), hB4.setCell (p := ⟨w.heap.size + 1, k, none⟩) (by show w.heap.size ≤ w.heap.size + 1; omega) (.int .u8 49)⟩
        case measure => omega
    · obtain rfl : k = M := by omega
      have hcv := run_convert_bytes_back (P := Try.prog) wr 43 9 5 ⟨w.heap.size + 1, 0, none⟩ k (tbB T k) Try.underlying43 Try.underlying5 Try.underlying9 (fun j hj => by
        rw [tbB_len] at hj
        have h1 : wr.cell? ⟨w.heap.size + 1, j, none⟩ = some (.int .u8 ((tbB T k)[j].toNat : Int)) := by
          rw [hG.cell, hf.out j hj]
          simp only [tbB, List.getElem_map, List.getElem_range]
          split <;> rfl
        rw [← h1]
        unfold Addr.add
        split
        · rename_i h0; rw [h0]
        · simp)
      rw [tbB_len] at hcv
      go_wp2_with fail
      go_ret
      exact ⟨rfl, hB⟩

end Go.Proofs.Ytamjfcckgeakfaa
