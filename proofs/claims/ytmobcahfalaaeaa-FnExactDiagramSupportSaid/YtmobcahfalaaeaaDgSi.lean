/-
  DiagramSupport: the program.
-/
import Derived.Test.YtmobcahfalaaeaaDgSs
namespace Go.Proofs.Ytmobcahfalaaeaa
open Go.RowKit Num

/-- Ten bools that are false. -/
def noB : Array Value := #[.bool false, .bool false, .bool false, .bool false, .bool false, .bool false, .bool false, .bool false, .bool false, .bool false]

set_option maxRecDepth 100000 in
set_option maxHeartbeats 6400000 in
theorem implDs_any (lo : Nat) (L ro : Int) (n c : Nat) (A0 : Option Addr) (f : Nat → Int) (w : World) (hn : n ≤ 1048576) (h0 : IntsAt lo w A0 (n * 3) f) :
    Calls Try.prog 32 #[dgV L A0 n c ro] w fun e w' => ∃ A1 c1, e = .returned (.tuple #[.slice A1 (dsL L ro n f).length c1, .bool (vaB L ro n f)]) ∧ LsAt w.heap.size w' A1 (dsL L ro n f) ∧ Below w.heap.size w w' := by
  have hP := Box.new w 24 #[.int .i64 L, .slice A0 n c, .int .i64 ro]
  have hB := (Below.refl w.heap.size w).alloc (Nat.le_refl _) (.cells #[.int .i64 L, .slice A0 n c, .int .i64 ro] 24)
  obtain ⟨q0, q1, q2⟩ := hP.trio
  have H0 := Lib.hid h0; clear h0
  have CG : Hid (∀ W, Below w.heap.size w W → _) := Lib.hid fun W hW => implVaE_any lo L ro n c A0 f W hn (H0.out.below hW (Nat.le_refl _))
  unfold dsL
  cases hv : vaB L ro n f with
  | false =>
    rw [hv] at CG
    rw [if_neg (by simp)]
    clear hv
    go_enter Try.func32, Try.ntmps32
    go_wp2_with (go_at_call 28; refine (CG.out _ hB).mono ?_; rintro e w1 ⟨rfl, hb⟩)
    go_ret2
    exact ⟨none, 0, rfl, fun h => absurd h (Nat.lt_irrefl 0), hB.trans (hb.mono hB.size)⟩
  | true =>
    rw [hv] at CG
    rw [if_pos rfl]
    have hvd := (vd_iff L ro n f).1 ((vaB_iff L ro n f).1 hv)
    obtain ⟨⟨hL, h4, hro, hs⟩, _⟩ := hvd
    have HS := Lib.hid hs
    have HU : Hid (∀ k, dsU f (k + 1) = setU (dsU f k) (f (k * 3)).toNat) := Lib.hid fun k => rfl
    have HZ : Hid (∀ j, dsU f 0 j = false) := Lib.hid fun _ => rfl
    clear hv hs
    generalize dsU f = U at HU HZ ⊢
    go_enter Try.func32, Try.ntmps32
    go_upto_region 3 with (go_at_call 28; refine (CG.out _ hB).mono ?_; rintro e w1 ⟨rfl, hb⟩; clear q0 q1 q2; replace hP := hP.below hb hP.lt; replace hB := hB.trans (hb.mono hB.size); clear hb; obtain ⟨q0, q1, q2⟩ := hP.trio)
    have hG := Box.new w1 72 noB
    have hgt : w.heap.size < w1.heap.size := World.block_lt_of_cell? w1 ⟨w.heap.size, 0, none⟩ q0
    replace hP := hP.alloc (.cells noB 72)
    replace hB := hB.alloc hB.size (.cells noB 72)
    unfold noB at hP hB hG
    clear q0 q1 q2
    obtain ⟨q0, q1, q2⟩ := hP.trio
    have hnb : Hid (∀ j, j < 10 → (#[.bool false, .bool false, .bool false, .bool false, .bool false, .bool false, .bool false, .bool false, .bool false, .bool false] : Array Value)[j]? = some (.bool (U 0 j))) := Lib.hid fun j hj => by
      rw [HZ.out]
      match j, hj with
      | 0, _ => rfl
      | 1, _ => rfl
      | 2, _ => rfl
      | 3, _ => rfl
      | 4, _ => rfl
      | 5, _ => rfl
      | 6, _ => rfl
      | 7, _ => rfl
      | 8, _ => rfl
      | 9, _ => rfl
    go_upto_region 4 with fail
    generalize hW : World.alloc _ _ = W0 at hP hB hG q0 q1 q2 ⊢
    clear hW
    generalize w1.heap.size = G at hG hgt ⊢
    generalize (#[.bool false, .bool false, .bool false, .bool false, .bool false, .bool false, .bool false, .bool false, .bool false, .bool false] : Array Value) = nb at hG hnb
    have hK : ∃ cs : Array Value, Box W0 G 72 cs ∧ ∀ j, j < 10 → cs[j]? = some (.bool (U 0 j)) := ⟨nb, hG, hnb.out⟩
    clear hG hnb nb
    go_wp2_with fail
    clear q0 q1 q2 CG
    go_loopg [13] n (fun q iv wr => ∃ k : Nat, k + q = n ∧ iv = .int .i64 (k : Nat) ∧ (∃ cs : Array Value, Box wr G 72 cs ∧ ∀ j, j < 10 → cs[j]? = some (.bool (U k j))) ∧ Box wr w.heap.size 24 #[.int .i64 L, .slice A0 n c, .int .i64 ro] ∧ Below w.heap.size w wr)
    case atStart => exact ⟨0, by omega, rfl, hK, hP, hB⟩
    case round =>
      clear hP hB hK
      obtain ⟨k, hk, rfl, ⟨cs, hG, hcs⟩, hP, hB⟩ := hrel
      obtain ⟨q0, q1, q2⟩ := hP.trio
      by_cases hk0 : k < n
      · obtain ⟨b, off, rfl, hb, r0, r1, r2⟩ := (H0.out.below hB (Nat.le_refl _)).trio hk0
        obtain ⟨⟨a1, a2⟩, _⟩ := HS.out _ hk0
        have HU1 := Lib.hid (HU.out k)
        obtain ⟨v, hv⟩ : ∃ v : Nat, v = (f (k * 3)).toNat := ⟨_, rfl⟩
        rw [← hv] at HU1
        rw [show f (k * 3) = (v : Int) by omega] at r0
        have hv10 : v < 10 := by omega
        have hv10' : (v : Int) < 10 := by omega
        clear hv a1 a2
        have hX := Box.new wr 63 #[.int .i64 (v : Nat), .int .i64 (f (k * 3 + 1)), .int .i64 (f (k * 3 + 2))]
        have hP3 := hP.alloc (.cells #[.int .i64 (v : Nat), .int .i64 (f (k * 3 + 1)), .int .i64 (f (k * 3 + 2))] 63)
        have hB3 := hB.alloc hB.size (.cells #[.int .i64 (v : Nat), .int .i64 (f (k * 3 + 1)), .int .i64 (f (k * 3 + 2))] 63)
        have hG3 := hG.alloc (.cells #[.int .i64 (v : Nat), .int .i64 (f (k * 3 + 1)), .int .i64 (f (k * 3 + 2))] 63)
        obtain ⟨x0, x1, x2⟩ := hX.trio
        have g0 := hG3.cell v
        rw [hcs v hv10] at g0
        have gf := hG3.free v
        have HC := Lib.hid hcs
        clear hG hP hB hcs
        go_upto_region 7 with fail
        generalize hW3 : World.alloc _ _ = W3 at hX hP3 hB3 hG3 x0 x1 x2 g0 gf ⊢
        clear hW3 r0 r1 r2 q0 q1 q2 hX
        go_wp2_with fail
        go_roundg (gk - 1)
        case rel => exact ⟨k + 1, by omega, by go_num, ⟨_, hG3.set v (.bool true), fun j hj => by
          have hsz : v < cs.size := (Array.getElem?_eq_some_iff.1 (HC.out v hv10)).1
          rw [Array.getElem?_setIfInBounds, HU1.out]
          by_cases e : v = j
          · subst e; rw [if_pos rfl, if_pos hsz]; simp [setU]
          · rw [if_neg e, HC.out j hj]
            have : (j == v) = false := beq_eq_false_iff_ne.2 (fun h => e h.symm)
            simp [setU, this]⟩, hP3.far3 (show G ≠ w.heap.size by omega) v (.bool true), hB3.setCell (p := ⟨G, v, none⟩) (by show w.heap.size ≤ G; omega) (.bool true)⟩
        case measure => omega
      · obtain rfl : k = n := by omega
        have hbools : BoolsAt wr (some ⟨G, 0, none⟩) 10 (U k) := fun j hj => ⟨_, 0, rfl, hG.lt, by rw [Nat.zero_add, hG.cell]; exact hcs j hj⟩
        have CB := Lib.hid (setBits_any (some ⟨G, 0, none⟩) 10 10 (U k) wr (by omega) hbools)
        have gc := hG.cell 0
        rw [hcs 0 (by omega)] at gc
        clear hbools hcs
        go_wp2_with (go_at_call 62; refine CB.out.mono ?_; rintro e w2 ⟨A1, c1, rfl, hA, hb2⟩)
        go_ret2
        exact ⟨A1, c1, rfl, hA.low hB.size, hB.trans (hb2.mono hB.size)⟩

end Go.Proofs.Ytmobcahfalaaeaa
