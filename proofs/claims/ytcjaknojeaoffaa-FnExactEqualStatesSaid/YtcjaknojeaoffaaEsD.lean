/-
  The law on EqualStates.
-/
import Derived.Test.YtcjaknojeaoffaaEsC
namespace Go.Proofs.Ytcjaknojeaoffaa
open Go.RowKit Num

set_option maxRecDepth 100000 in
set_option maxHeartbeats 6400000 in
theorem lawEs_any (lo lo' : Nat) (A0 A1 : Option Addr) (n m c0 c1 : Nat) (wl : Nat → Nat) (wv : Nat → Nat → Int) (wq : Nat → Bool × ByteArray × ByteArray) (ul : Nat → Nat) (uv : Nat → Nat → Int) (uq : Nat → Bool × ByteArray × ByteArray) (w : World) (hn : n ≤ 9223372036854775807) (hm : m ≤ 9223372036854775807) (h0 : WtAt lo w A0 n wl wv wq) (h1 : WtAt lo' w A1 m ul uv uq)
    (hs : ∀ j, j < n → wl j ≤ 9223372036854775807 ∧ (wq j).2.1.size ≤ 9223372036854775807 ∧ (wq j).2.2.size ≤ 9223372036854775807) (ht : ∀ j, j < m → ul j ≤ 9223372036854775807 ∧ (uq j).2.1.size ≤ 9223372036854775807 ∧ (uq j).2.2.size ≤ 9223372036854775807) :
    Calls Try.prog 3 #[.slice A0 n c0, .slice A1 m c1] w fun e w' => e = .returned (.bool true) ∧ Below w.heap.size w w' := by
  have hB := Below.refl w.heap.size w
  have CZ1 : Hid (∀ W, Below w.heap.size w W → _) := Lib.hid fun W hW => szWtS_any lo A0 n c0 wl wv wq 1048576 W hn (by omega) (by omega) (h0.below hW (Nat.le_refl _)) hs
  have CZ2 : Hid (∀ (l : Int) W, Below w.heap.size w W → 0 ≤ l → l ≤ 1048576 → _) := Lib.hid fun l W hW a b => szWtS_any lo' A1 m c1 ul uv uq l W hm a b (h1.below hW (Nat.le_refl _)) ht
  have H := Lib.hid h0
  have K := Lib.hid h1
  clear h0 h1 hs ht
  go_enter Try.func3, Try.ntmps3
  go_upto_region 8 with (first
    | (go_at_call 4
       with_reducible refine (CZ1.out _ hB).mono ?_
       rintro e w1 ⟨r1, rfl, hr1, hb⟩
       have hl1 : r1 ≤ 1048576 := (by have := hr1.out; omega)
       replace hB := hB.trans (hb.mono hB.size)
       clear hb)
    | (go_at_call 4
       with_reducible refine (CZ2.out _ _ hB (by omega) (by omega)).mono ?_
       rintro e w1 ⟨r2, rfl, hr2, hb⟩
       have hl2 : r2 ≤ 1048576 := (by have := hr2.out; omega)
       replace hB := hB.trans (hb.mono hB.size)
       clear hb))
  all_goals first
    | (go_ret
       exact ⟨rfl, hB⟩)
    | skip
  have SP := Lib.hid (hr1.out.2.2 (by omega))
  have SQ := Lib.hid (hr2.out.2.2 (by omega))
  have CP : Hid (∀ W, Below w.heap.size w W → _) := Lib.hid fun W hW => toWtS_any lo A0 n c0 wl wv wq W SP.out.1 (H.out.below hW (Nat.le_refl _)) SP.out.2
  have CQ : Hid (∀ W, Below w.heap.size w W → _) := Lib.hid fun W hW => toWtS_any lo' A1 m c1 ul uv uq W SQ.out.1 (K.out.below hW (Nat.le_refl _)) SQ.out.2
  have CS : Hid (∀ (l1 l2 g k : Nat) (W : World), WtAt l1 W (some ⟨g, 0, none⟩) n wl wv wq → WtAt l2 W (some ⟨k, 0, none⟩) m ul uv uq → _) := Lib.hid fun l1 l2 g k W x y => specEs_any l1 l2 (some ⟨g, 0, none⟩) (some ⟨k, 0, none⟩) n m n m wl wv wq ul uv uq W SP.out.1 SQ.out.1 x y SP.out.2 SQ.out.2
  have CM : Hid (∀ (l1 l2 g k : Nat) (W : World), WtAt l1 W (some ⟨g, 0, none⟩) n wl wv wq → WtAt l2 W (some ⟨k, 0, none⟩) m ul uv uq → _) := Lib.hid fun l1 l2 g k W x y => implEs_any l1 l2 (some ⟨g, 0, none⟩) (some ⟨k, 0, none⟩) n m n m wl wv wq ul uv uq W SP.out.1 SQ.out.1 x y SP.out.2 SQ.out.2
  have CE : Hid (∀ (l1 l2 g k : Nat) (W : World), WtAt l1 W (some ⟨g, 0, none⟩) n wl wv wq → WtAt l2 W (some ⟨k, 0, none⟩) n wl wv wq → _) := Lib.hid fun l1 l2 g k W x y => eqWtS_any l1 l2 (some ⟨g, 0, none⟩) (some ⟨k, 0, none⟩) n n n wl wv wq W SP.out.1 x y SP.out.2
  have CF : Hid (∀ (l1 l2 g k : Nat) (W : World), WtAt l1 W (some ⟨g, 0, none⟩) m ul uv uq → WtAt l2 W (some ⟨k, 0, none⟩) m ul uv uq → _) := Lib.hid fun l1 l2 g k W x y => eqWtS_any l1 l2 (some ⟨g, 0, none⟩) (some ⟨k, 0, none⟩) m m m ul uv uq W SQ.out.1 x y SQ.out.2
  clear hl1 hl2 hr1 hr2 H K CZ1 CZ2 SP SQ
  go_upto_region 9 with (first
    | (go_at_call 6
       with_reducible refine (CP.out _ hB).mono ?_
       rintro e w2 ⟨⟨g, rfl, hg⟩, hb⟩
       replace hB := hB.trans (hb.mono hB.size)
       clear hb)
    | (go_at_call 6
       with_reducible refine (CQ.out _ hB).mono ?_
       rintro e w3 ⟨⟨k, rfl, hk⟩, hb⟩
       replace hg := hg.below hb (Nat.le_refl _)
       replace hB := hB.trans (hb.mono hB.size)
       clear hb)
    | (go_at_call 5
       with_reducible refine (CS.out _ _ _ _ _ hg hk).mono ?_
       rintro e w4 ⟨r, rfl, hr, hb⟩
       replace hB := hB.trans (hb.mono hB.size)
       clear hb hg hk))
  go_upto_region 11 with (first
    | (go_at_call 6
       with_reducible refine (CP.out _ hB).mono ?_
       rintro e w5 ⟨⟨g, rfl, hg⟩, hb⟩
       replace hB := hB.trans (hb.mono hB.size)
       clear hb)
    | (go_at_call 6
       with_reducible refine (CQ.out _ hB).mono ?_
       rintro e w6 ⟨⟨k, rfl, hk⟩, hb⟩
       replace hg := hg.below hb (Nat.le_refl _)
       replace hB := hB.trans (hb.mono hB.size)
       clear hb))
  go_upto_region 14 with (go_at_call 7
                          refine (CM.out _ _ _ _ _ hg hk).mono ?_
                          rintro e w7 ⟨r', rfl, hr', hb⟩
                          obtain rfl : r' = r := Bool.eq_iff_iff.2 (hr'.out.trans hr.out.symm)
                          have nr : (r' != r') = false := by cases r' <;> rfl
                          replace hg := hg.below hb (Nat.le_refl _)
                          replace hk := hk.below hb (Nat.le_refl _)
                          replace hB := hB.trans (hb.mono hB.size)
                          clear hb)
  go_upto_region 16 with (first
    | (go_at_call 6
       with_reducible refine (CP.out _ hB).mono ?_
       rintro e w8 ⟨⟨g2, rfl, hg2⟩, hb⟩
       replace hg := hg.below hb (Nat.le_refl _)
       replace hk := hk.below hb (Nat.le_refl _)
       replace hB := hB.trans (hb.mono hB.size)
       clear hb)
    | (go_at_call 8
       with_reducible refine (CE.out _ _ _ _ _ hg hg2).mono ?_
       rintro e w9 ⟨rfl, hb⟩
       replace hk := hk.below hb (Nat.le_refl _)
       replace hB := hB.trans (hb.mono hB.size)
       clear hb hg hg2))
  go_wp2_with (first
    | (go_at_call 6
       with_reducible refine (CQ.out _ hB).mono ?_
       rintro e w8 ⟨⟨k2, rfl, hk2⟩, hb⟩
       replace hk := hk.below hb (Nat.le_refl _)
       replace hB := hB.trans (hb.mono hB.size)
       clear hb)
    | (go_at_call 8
       with_reducible refine (CF.out _ _ _ _ _ hk hk2).mono ?_
       rintro e w9 ⟨rfl, hb⟩
       replace hB := hB.trans (hb.mono hB.size)
       clear hb))
  go_ret
  exact ⟨rfl, hB⟩

end Go.Proofs.Ytcjaknojeaoffaa
