/-
  DiagramSupport: the model.
-/
import Derived.Test.YtmobcahfalaaeaaDgPv
namespace Go.Proofs.Ytmobcahfalaaeaa
open Go.RowKit Num

/-- The levels of the first k nodes. -/
def dsU (f : Nat → Int) : Nat → Nat → Bool
  | 0 => fun _ => false
  | k + 1 => setU (dsU f k) (f (k * 3)).toNat
theorem ds_zero (f : Nat → Int) : ups (dsU f 0) 10 = [] := rfl
theorem ds_succ (f : Nat → Int) (k : Nat) : dsU f (k + 1) = setU (dsU f k) (f (k * 3)).toNat := rfl

/-- The answer: a list of levels. -/
noncomputable def dsL (L ro : Int) (n : Nat) (f : Nat → Int) : List Int := if vaB L ro n f then ups (dsU f n) 10 else []
theorem dsL_le (L ro : Int) (n : Nat) (f : Nat → Int) : (dsL L ro n f).length ≤ 1048576 := by
  unfold dsL
  split
  · exact Nat.le_trans (ups_le _ _) (by omega)
  · exact Nat.zero_le _

set_option maxRecDepth 100000 in
set_option maxHeartbeats 3200000 in
theorem specDs_any (lo : Nat) (L ro : Int) (n c : Nat) (A0 : Option Addr) (f : Nat → Int) (w : World) (hn : n ≤ 1048576) (h0 : IntsAt lo w A0 (n * 3) f) :
    Calls Try.prog 31 #[dgV L A0 n c ro] w fun e w' => ∃ A1 c1, e = .returned (.tuple #[.slice A1 (dsL L ro n f).length c1, .bool (vaB L ro n f)]) ∧ LsAt w.heap.size w' A1 (dsL L ro n f) ∧ Below w.heap.size w w' := by
  have hP := Box.new w 24 #[.int .i64 L, .slice A0 n c, .int .i64 ro]
  have hB := (Below.refl w.heap.size w).alloc (Nat.le_refl _) (.cells #[.int .i64 L, .slice A0 n c, .int .i64 ro] 24)
  obtain ⟨q0, q1, q2⟩ := hP.trio
  have H0 := Lib.hid h0; clear h0
  have CG : Hid (∀ W, Below w.heap.size w W → _) := Lib.hid fun W hW => specGdE_any lo L ro n c A0 f W hn (H0.out.below hW (Nat.le_refl _))
  unfold dsL
  cases hv : vaB L ro n f with
  | false =>
    rw [hv] at CG
    rw [if_neg (by simp)]
    clear hv
    go_enter Try.func31, Try.ntmps31
    go_wp2_with (go_at_call 54; refine (CG.out _ hB).mono ?_; rintro e w1 ⟨rfl, hb⟩)
    go_ret2
    exact ⟨none, 0, rfl, fun h => absurd h (Nat.lt_irrefl 0), hB.trans (hb.mono hB.size)⟩
  | true =>
    rw [hv] at CG
    rw [if_pos rfl]
    have hvd := (vd_iff L ro n f).1 ((vaB_iff L ro n f).1 hv)
    obtain ⟨⟨hL, h4, hro, hs⟩, _⟩ := hvd
    have HS := Lib.hid hs
    have HU : Hid (∀ k, dsU f (k + 1) = setU (dsU f k) (f (k * 3)).toNat) := Lib.hid fun k => rfl
    have HZ := Lib.hid (ds_zero f)
    clear hv hs
    generalize dsU f = U at HU HZ ⊢
    go_enter Try.func31, Try.ntmps31
    go_upto_region 4 with (go_at_call 54; refine (CG.out _ hB).mono ?_; rintro e w1 ⟨rfl, hb⟩; clear q0 q1 q2; replace hP := hP.below hb hP.lt; replace hB := hB.trans (hb.mono hB.size); clear hb; obtain ⟨q0, q1, q2⟩ := hP.trio)
    go_wp2_with fail
    clear q0 q1 q2 CG
    go_loopg [4, 13] n (fun q v iv wr => ∃ k : Nat, k + q = n ∧ iv = .int .i64 (k : Nat) ∧ OutAt w.heap.size wr v (ups (U k) 10) ∧ Box wr w.heap.size 24 #[.int .i64 L, .slice A0 n c, .int .i64 ro] ∧ Below w.heap.size w wr)
    case atStart => exact ⟨0, by omega, rfl, .inl ⟨HZ.out, rfl⟩, hP, hB⟩
    case round =>
      clear hP hB
      obtain ⟨k, hk, rfl, hO, hP, hB⟩ := hrel
      obtain ⟨q0, q1, q2⟩ := hP.trio
      by_cases hk0 : k < n
      · obtain ⟨b, off, rfl, hb, r0, r1, r2⟩ := (H0.out.below hB (Nat.le_refl _)).trio hk0
        obtain ⟨⟨a1, a2⟩, _⟩ := HS.out _ hk0
        have HU1 := Lib.hid (HU.out k)
        obtain ⟨v, hv⟩ : ∃ v : Nat, v = (f (k * 3)).toNat := ⟨_, rfl⟩
        rw [← hv] at HU1
        rw [show f (k * 3) = (v : Int) by omega] at r0
        have hv10 : v < 10 := by omega
        clear hv a1 a2
        have hX := Box.new wr 63 #[.int .i64 (v : Nat), .int .i64 (f (k * 3 + 1)), .int .i64 (f (k * 3 + 2))]
        have hP3 := hP.alloc (.cells #[.int .i64 (v : Nat), .int .i64 (f (k * 3 + 1)), .int .i64 (f (k * 3 + 2))] 63)
        have hB3 := hB.alloc hB.size (.cells #[.int .i64 (v : Nat), .int .i64 (f (k * 3 + 1)), .int .i64 (f (k * 3 + 2))] 63)
        have hal := (Below.refl wr.heap.size wr).alloc (Nat.le_refl _) (.cells #[.int .i64 (v : Nat), .int .i64 (f (k * 3 + 1)), .int .i64 (f (k * 3 + 2))] 63)
        have hO3 := hO.below hal (Nat.le_refl _)
        obtain ⟨x0, x1, x2⟩ := hX.trio
        clear hO hP hB hal
        go_wp2_with (go_at_call 61; refine (put_any w.heap.size (U k) 10 v _ _ hv10 (by omega) hB3.size hO3).mono ?_; rintro e w2 ⟨xv', rfl, hO4, hb4⟩; replace hP3 := hP3.below hb4 hP3.lt; replace hB3 := hB3.trans (hb4.mono hB3.size); clear hb4 hO3)
        go_roundg (gk - 1)
        case rel => exact ⟨k + 1, by omega, by go_num, by rw [HU1.out]; exact hO4, hP3, hB3⟩
        case measure => omega
      · obtain rfl : k = n := by omega
        obtain ⟨A1, c1, rfl, hA⟩ := hO.at_
        go_wp2_with fail
        go_ret2
        exact ⟨A1, c1, rfl, hA, hB⟩

end Go.Proofs.Ytmobcahfalaaeaa
