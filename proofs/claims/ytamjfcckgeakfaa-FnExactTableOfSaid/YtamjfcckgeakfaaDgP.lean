/-
  Decision diagrams, the model: following references from the root, and the table.
-/
import Derived.Test.YtamjfcckgeakfaaDgN
namespace Go.Proofs.Ytamjfcckgeakfaa
open Go.RowKit Num

theorem byte_bin (n i v : Nat) (h : v < n) (hs : (⟨(bin n i).toArray⟩ : ByteArray).size = n) : ((⟨(bin n i).toArray⟩ : ByteArray)[v]'(by rw [hs]; exact h)) = UInt8.ofNat (48 + i / 2 ^ (n - 1 - v) % 2) := by
  have h1 := byte_at (s := ⟨(bin n i).toArray⟩) (k := v) (by rw [hs]; exact h)
  rw [show (⟨(bin n i).toArray⟩ : ByteArray).data.toList = bin n i by simp, bin_get n i v h] at h1
  injection h1 with h1
  exact h1.symm

theorem bin_size (n i : Nat) : (⟨(bin n i).toArray⟩ : ByteArray).size = n := by
  show (bin n i).toArray.size = n
  rw [List.size_toArray, bin_len]

set_option maxRecDepth 100000 in
set_option maxHeartbeats 6400000 in
theorem specAt_any (lo : Nat) (L : Int) (r n c i : Nat) (A0 : Option Addr) (f : Nat → Int) (w : World) (hs : ShpI L n f) (h0L : 0 ≤ L) (hL : L ≤ 10) (hn : n ≤ 1048576) (hr : r < n + 2) (h0 : IntsAt lo w A0 (n * 3) f) :
    Calls Try.prog 68 #[dgV L A0 n c (r : Nat), .string ⟨(bin L.toNat i).toArray⟩] w fun e w' => e = .returned (.bool (Dg.ev (ndl n f) L.toNat L.toNat r i)) ∧ Below w.heap.size w w' := by
  have hP := Box.new w 28 #[.int .i64 L, .slice A0 n c, .int .i64 (r : Nat)]
  have hB := (Below.refl w.heap.size w).alloc (Nat.le_refl _) (.cells #[.int .i64 L, .slice A0 n c, .int .i64 (r : Nat)] 28)
  obtain ⟨q0, q1, q2⟩ := hP.trio
  have H0 := Lib.hid h0; clear h0
  have HS := Lib.hid hs; clear hs
  rw [Dg.ev_root HS.out.shp (Nat.le_refl _) (by rw [ndl_len]; exact hr) (.inr (by omega))]
  go_enter Try.func68, Try.ntmps68
  go_wp2_with fail
  clear q0 q1 q2
  generalize hW : World.alloc _ _ = W0 at hP hB ⊢
  clear hW
  go_loopg [5] r (fun q v wr => q < n + 2 ∧ v = .int .i64 (q : Nat) ∧ Hid (Dg.evT (ndl n f) L.toNat r i = Dg.evT (ndl n f) L.toNat q i) ∧ Box wr w.heap.size 28 #[.int .i64 L, .slice A0 n c, .int .i64 (r : Nat)] ∧ Below w.heap.size w wr)
  case atStart => exact ⟨hr, rfl, Lib.hid rfl, hP, hB⟩
  case round =>
    clear hP hB
    obtain ⟨hq, rfl, he, hP, hB⟩ := hrel
    obtain ⟨q0, q1, q2⟩ := hP.trio
    by_cases h1 : gk ≤ 1
    · have d1 : decide ((gk : Int) > 1) = false := decide_eq_false (by omega)
      have d1' : decide (1 < (gk : Int)) = false := decide_eq_false (by omega)
      have hfin : Dg.evT (ndl n f) L.toNat gk i = ((gk : Int) == 1) := by
        unfold Dg.evT
        rw [if_pos (by omega)]
        have : gk = 0 ∨ gk = 1 := by omega
        rcases this with rfl | rfl <;> rfl
      have HF := Lib.hid (he.out.trans hfin)
      clear hfin
      go_wp2_with fail
      go_ret
      exact ⟨by rw [HF.out]; rfl, hB⟩
    · have d1 : decide ((gk : Int) > 1) = true := decide_eq_true (by omega)
      have d1' : decide (1 < (gk : Int)) = true := decide_eq_true (by omega)
      have hk : gk - 2 < n := by omega
      obtain ⟨b, off, rfl, hb, r0, r1, r2⟩ := (H0.out.below hB (Nat.le_refl _)).trio hk
      have e2 : IntKind.i64.wrap ((gk : Int) - 2) = ((gk - 2 : Nat) : Int) := by rw [IntWalk.i64_in _ (by omega)]; omega
      obtain ⟨⟨a1, a2⟩, ⟨b1, b2⟩, ⟨c1, c2⟩, _⟩ := HS.out _ hk
      have hnd : Dg.nd (ndl n f) gk = ((f ((gk - 2) * 3)).toNat, (f ((gk - 2) * 3 + 1)).toNat, (f ((gk - 2) * 3 + 2)).toNat) := by
        have := nd_ndl f hk
        rwa [show gk - 2 + 2 = gk by omega] at this
      have hst := Dg.evT_step (j := i) HS.out.shp (show 2 ≤ gk by omega) (by rw [ndl_len]; exact hq)
      rw [hnd] at hst
      dsimp only at hst
      have hbs := bin_size L.toNat i
      have hvl : (f ((gk - 2) * 3)).toNat < L.toNat := by omega
      have hby := byte_bin L.toNat i (f ((gk - 2) * 3)).toNat hvl hbs
      have ev : f ((gk - 2) * 3) = (((f ((gk - 2) * 3)).toNat : Nat) : Int) := by omega
      have el : f ((gk - 2) * 3 + 1) = (((f ((gk - 2) * 3 + 1)).toNat : Nat) : Int) := by omega
      have eh : f ((gk - 2) * 3 + 2) = (((f ((gk - 2) * 3 + 2)).toNat : Nat) : Int) := by omega
      have hl1 : (f ((gk - 2) * 3 + 1)).toNat < gk := by omega
      have hl2 : (f ((gk - 2) * 3 + 2)).toNat < gk := by omega
      rw [ev] at r0
      rw [el] at r1
      rw [eh] at r2
      have HE := he
      clear he ev el eh hnd a1 a2 b1 b2 c1 c2
      generalize (f ((gk - 2) * 3)).toNat = v at *
      generalize (f ((gk - 2) * 3 + 1)).toNat = l at *
      generalize (f ((gk - 2) * 3 + 2)).toNat = h at *
      have hX := Box.new wr 86 #[.int .i64 (v : Nat), .int .i64 (l : Nat), .int .i64 (h : Nat)]
      have hB1 := hB.alloc hB.size (.cells #[.int .i64 (v : Nat), .int .i64 (l : Nat), .int .i64 (h : Nat)] 86)
      have hP1 := hP.alloc (.cells #[.int .i64 (v : Nat), .int .i64 (l : Nat), .int .i64 (h : Nat)] 86)
      obtain ⟨x0, x1, x2⟩ := hX.trio
      by_cases hbit : i / 2 ^ (L.toNat - 1 - v) % 2 = 1
      · rw [if_pos hbit] at hst
        have HST := Lib.hid (HE.out.trans hst)
        have f1 : ((((⟨(bin L.toNat i).toArray⟩ : ByteArray)[v]'(by rw [hbs]; exact hvl)).toNat : Int) == 49) = true := by rw [hby, hbit]; rfl
        clear hst hbit hby
        go_wp2_with fail
        go_roundg h
        case rel => exact ⟨by omega, rfl, HST, hP1, hB1⟩
        case measure => omega
      · rw [if_neg hbit] at hst
        have HST := Lib.hid (HE.out.trans hst)
        have hb0 : i / 2 ^ (L.toNat - 1 - v) % 2 = 0 := by omega
        have f1 : ((((⟨(bin L.toNat i).toArray⟩ : ByteArray)[v]'(by rw [hbs]; exact hvl)).toNat : Int) == 49) = false := by rw [hby, hb0]; rfl
        clear hst hbit hby hb0
        go_wp2_with fail
        go_roundg l
        case rel => exact ⟨by omega, rfl, HST, hP1, hB1⟩
        case measure => omega

end Go.Proofs.Ytamjfcckgeakfaa
