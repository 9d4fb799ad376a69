/-
  Decision diagrams, the program: the reference behind a level.
-/
import Derived.Test.YtamjfcckgeakfaaDgP
namespace Go.Proofs.Ytamjfcckgeakfaa
open Go.RowKit Num

set_option maxRecDepth 100000 in
set_option maxHeartbeats 3200000 in
theorem childAt_all (lo : Nat) (L ro : Int) (r l : Nat) (b : Bool) (n c : Nat) (A0 : Option Addr) (f : Nat → Int) (w : World) (hs : ShpI L n f) (hn : n ≤ 1048576) (hr : r < n + 2) (h : IntsAt lo w A0 (n * 3) f) :
    Calls Try.prog 75 #[dgV L A0 n c ro, .int .i64 (r : Nat), .int .i64 (l : Nat), .bool b] w fun e w' => e = .returned (.int .i64 (Dg.ch (ndl n f) r l b : Nat)) ∧ Below w.heap.size w w' := by
  have hP := Box.new w 28 #[.int .i64 L, .slice A0 n c, .int .i64 ro]
  have hB := (Below.refl w.heap.size w).alloc (Nat.le_refl _) (.cells #[.int .i64 L, .slice A0 n c, .int .i64 ro] 28)
  obtain ⟨q0, q1, q2⟩ := hP.trio
  by_cases h2 : r < 2
  · have d : decide ((r : Int) < 2) = true := decide_eq_true (by omega)
    rw [Dg.ch_const h2]
    clear h hs hr
    go_enter Try.func75, Try.ntmps75
    go_wp2_with fail
    go_ret
    exact ⟨rfl, hB⟩
  · have d : decide ((r : Int) < 2) = false := decide_eq_false (by omega)
    have hk : r - 2 < n := by omega
    have H0 := Lib.hid h
    have CL : Hid (∀ W, Below w.heap.size w W → _) := Lib.hid fun W hW => levelAt_any lo L ro (r : Int) n c A0 f W hn (by omega) (by omega) (H0.out.below hW (Nat.le_refl _))
    have hlv : lvI L f (r : Int) = f ((r - 2) * 3) := by
      unfold lvI
      rw [if_neg (by omega)]
      simp
    rw [hlv] at CL
    have hnd : Dg.nd (ndl n f) r = ((f ((r - 2) * 3)).toNat, (f ((r - 2) * 3 + 1)).toNat, (f ((r - 2) * 3 + 2)).toNat) := by
      have := nd_ndl f hk
      rwa [show r - 2 + 2 = r by omega] at this
    obtain ⟨⟨a1, a2⟩, ⟨b1, b2⟩, ⟨c1, c2⟩, _⟩ := hs _ hk
    have e2 : IntKind.i64.wrap ((r : Int) - 2) = ((r - 2 : Nat) : Int) := by rw [IntWalk.i64_in _ (by omega)]; omega
    clear h hs hlv
    by_cases he : f ((r - 2) * 3) = (l : Int)
    · have hch : Dg.ch (ndl n f) r l b = if b then (f ((r - 2) * 3 + 2)).toNat else (f ((r - 2) * 3 + 1)).toNat := by
        unfold Dg.ch
        rw [if_neg (by rw [hnd]; dsimp only; omega), hnd]
      rw [he] at CL
      rw [hch]
      have e3 : ((l : Int) != (l : Int)) = false := by simp
      clear hch hnd he
      obtain ⟨b0, off, rfl, hb0, _⟩ := (H0.out.below hB (Nat.le_refl _)).trio hk
      cases b with
      | false =>
        have ev : f ((r - 2) * 3 + 1) = (((f ((r - 2) * 3 + 1)).toNat : Nat) : Int) := by omega
        have HR : Hid (∀ W, Below w.heap.size w W → W.cell? ⟨b0, off + (r - 2) * 3 + 1, none⟩ = some (.int .i64 (f ((r - 2) * 3 + 1)))) := Lib.hid fun W hW => by
          obtain ⟨b1, off1, h1, h2, h3, h4, h5⟩ := (H0.out.below hW (Nat.le_refl _)).trio hk
          cases h1
          exact h4
        rw [if_neg (by simp)]
        rw [ev] at HR
        generalize (f ((r - 2) * 3 + 1)).toNat = v at HR ⊢
        generalize r - 2 = k at *
        clear a1 a2 b1 b2 c1 c2 ev
        go_enter Try.func75, Try.ntmps75
        go_wp2_with (go_at_call 76; refine (CL.out _ hB).mono ?_; rintro e w1 ⟨rfl, hb⟩; clear q0 q1 q2; replace hP := hP.below hb hP.lt; replace hB := hB.trans (hb.mono hB.size); clear hb; obtain ⟨q0, q1, q2⟩ := hP.trio; have r1 := HR.out _ hB)
        go_ret
        exact ⟨rfl, hB⟩
      | true =>
        have ev : f ((r - 2) * 3 + 2) = (((f ((r - 2) * 3 + 2)).toNat : Nat) : Int) := by omega
        have HR : Hid (∀ W, Below w.heap.size w W → W.cell? ⟨b0, off + (r - 2) * 3 + 2, none⟩ = some (.int .i64 (f ((r - 2) * 3 + 2)))) := Lib.hid fun W hW => by
          obtain ⟨b1, off1, h1, h2, h3, h4, h5⟩ := (H0.out.below hW (Nat.le_refl _)).trio hk
          cases h1
          exact h5
        rw [if_pos rfl]
        rw [ev] at HR
        generalize (f ((r - 2) * 3 + 2)).toNat = v at HR ⊢
        generalize r - 2 = k at *
        clear a1 a2 b1 b2 c1 c2 ev
        go_enter Try.func75, Try.ntmps75
        go_wp2_with (go_at_call 76; refine (CL.out _ hB).mono ?_; rintro e w1 ⟨rfl, hb⟩; clear q0 q1 q2; replace hP := hP.below hb hP.lt; replace hB := hB.trans (hb.mono hB.size); clear hb; obtain ⟨q0, q1, q2⟩ := hP.trio; have r1 := HR.out _ hB)
        go_ret
        exact ⟨rfl, hB⟩
    · have hch : Dg.ch (ndl n f) r l b = r := by
        unfold Dg.ch
        rw [if_pos (by rw [hnd]; dsimp only; omega)]
      rw [hch]
      have e3 : (f ((r - 2) * 3) != (l : Int)) = true := by simpa using he
      clear hch hnd he
      generalize f ((r - 2) * 3) = v at CL e3
      clear a1 a2 b1 b2 c1 c2
      go_enter Try.func75, Try.ntmps75
      go_wp2_with (go_at_call 76; refine (CL.out _ hB).mono ?_; rintro e w1 ⟨rfl, hb⟩; clear q0 q1 q2; replace hP := hP.below hb hP.lt; replace hB := hB.trans (hb.mono hB.size); clear hb; obtain ⟨q0, q1, q2⟩ := hP.trio)
      go_ret
      exact ⟨rfl, hB⟩

theorem childAt_any (lo : Nat) (L ro : Int) (r l : Nat) (b : Bool) (n c : Nat) (A0 : Option Addr) (f : Nat → Int) (w : World) (hs : ShpI L n f) (hn : n ≤ 1048576) (hr : r < n + 2) (_hl : (l : Int) < L) (h : IntsAt lo w A0 (n * 3) f) :
    Calls Try.prog 75 #[dgV L A0 n c ro, .int .i64 (r : Nat), .int .i64 (l : Nat), .bool b] w fun e w' => e = .returned (.int .i64 (Dg.ch (ndl n f) r l b : Nat)) ∧ Below w.heap.size w w' := childAt_all lo L ro r l b n c A0 f w hs hn hr h

end Go.Proofs.Ytamjfcckgeakfaa
