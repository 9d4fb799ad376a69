/-
  TableOf: the model.
-/
import Derived.Test.YtamjfcckgeakfaaDgV
namespace Go.Proofs.Ytamjfcckgeakfaa
open Go.RowKit Num

/-- The answer: a text and whether there is one. -/
noncomputable def taS (L ro : Int) (n : Nat) (f : Nat → Int) : ByteArray := if vaB L ro n f then tbS (Dg.ev (ndl n f) L.toNat L.toNat ro.toNat) (2 ^ L.toNat) else ⟨#[]⟩

set_option maxRecDepth 100000 in
set_option maxHeartbeats 3200000 in
theorem specTa_any (lo : Nat) (L ro : Int) (n c : Nat) (A0 : Option Addr) (f : Nat → Int) (w : World) (hn : n ≤ 1048576) (h0 : IntsAt lo w A0 (n * 3) f) :
    Calls Try.prog 22 #[dgV L A0 n c ro] w fun e w' => e = .returned (.tuple #[.string (taS L ro n f), .bool (vaB L ro n f)]) ∧ Below w.heap.size w w' := by
  have hP := Box.new w 28 #[.int .i64 L, .slice A0 n c, .int .i64 ro]
  have hB := (Below.refl w.heap.size w).alloc (Nat.le_refl _) (.cells #[.int .i64 L, .slice A0 n c, .int .i64 ro] 28)
  obtain ⟨q0, q1, q2⟩ := hP.trio
  have H0 := Lib.hid h0; clear h0
  have CG : Hid (∀ W, Below w.heap.size w W → _) := Lib.hid fun W hW => specGdE_any lo L ro n c A0 f W hn (H0.out.below hW (Nat.le_refl _))
  unfold taS
  cases hv : vaB L ro n f with
  | false =>
    rw [hv] at CG
    rw [if_neg (by simp)]
    clear hv
    go_enter Try.func22, Try.ntmps22
    go_wp2_with (go_at_call 39; refine (CG.out _ hB).mono ?_; rintro e w1 ⟨rfl, hb⟩)
    go_ret2
    exact ⟨rfl, hB.trans (hb.mono hB.size)⟩
  | true =>
    rw [hv] at CG
    rw [if_pos rfl]
    have hvd := (vd_iff L ro n f).1 ((vaB_iff L ro n f).1 hv)
    obtain ⟨⟨hL, h4, hro, hs⟩, _⟩ := hvd
    have er : ((ro.toNat : Nat) : Int) = ro := by omega
    have CT : Hid (∀ W, Below w.heap.size w W → _) := Lib.hid fun W hW => specTable_any lo L ro.toNat n c A0 f W hs hL.1 hL.2 hn (by omega) (H0.out.below hW (Nat.le_refl _))
    rw [er] at CT
    generalize tbS (Dg.ev (ndl n f) L.toNat L.toNat ro.toNat) (2 ^ L.toNat) = S at CT ⊢
    clear hv er hs hL h4 hro
    go_enter Try.func22, Try.ntmps22
    go_wp2_with (first
      | (go_at_call 39
         refine (CG.out _ hB).mono ?_
         rintro e w1 ⟨rfl, hb⟩
         clear q0 q1 q2
         replace hP := hP.below hb hP.lt
         replace hB := hB.trans (hb.mono hB.size)
         clear hb
         obtain ⟨q0, q1, q2⟩ := hP.trio)
      | (go_at_call 43
         refine (CT.out _ hB).mono ?_
         rintro e w2 ⟨rfl, hb⟩
         clear q0 q1 q2
         replace hB := hB.trans (hb.mono hB.size)
         clear hb))
    go_ret2
    exact ⟨rfl, hB⟩

end Go.Proofs.Ytamjfcckgeakfaa
