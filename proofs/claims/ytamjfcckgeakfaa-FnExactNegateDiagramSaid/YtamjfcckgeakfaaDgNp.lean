/-
  NegateDiagram: the program.
-/
import Derived.Test.YtamjfcckgeakfaaDgCbA
import Derived.Test.YtamjfcckgeakfaaDgAn
namespace Go.Proofs.Ytamjfcckgeakfaa
open Go.RowKit Num

theorem evT_true (N : List Dg.Nd) (L j : Nat) : Dg.evT N L 1 j = true := rfl
theorem specNgE_any (lo : Nat) (L ro : Int) (n c : Nat) (A0 : Option Addr) (f : Nat → Int) (w : World) (hn : n ≤ 1048576) (h0 : IntsAt lo w A0 (n * 3) f) :
    Calls Try.prog 18 #[dgV L A0 n c ro] w (AnPost (vaB L ro n f) L (ngD L ro n f) w) := specNg_any lo L ro n c A0 f w hn h0

set_option maxRecDepth 100000 in
set_option maxHeartbeats 6400000 in
theorem implNg_any (lo : Nat) (L ro : Int) (n c : Nat) (A0 : Option Addr) (f : Nat → Int) (w : World) (hn : n ≤ 1048576) (h0 : IntsAt lo w A0 (n * 3) f) :
    Calls Try.prog 19 #[dgV L A0 n c ro] w (AnPost (vaB L ro n f) L (ngD L ro n f) w) := by
  have hP := (Box.new w 28 #[.int .i64 L, .slice A0 n c, .int .i64 ro]).alloc (.cells #[.int .i64 0, .slice none 0 0, .int .i64 0] 28)
  have hB := ((Below.refl w.heap.size w).alloc (Nat.le_refl _) (.cells #[.int .i64 L, .slice A0 n c, .int .i64 ro] 28)).alloc (by simp) (.cells #[.int .i64 0, .slice none 0 0, .int .i64 0] 28)
  have hR := Box.new (w.alloc (.cells #[.int .i64 L, .slice A0 n c, .int .i64 ro] 28)) 28 #[.int .i64 0, .slice none 0 0, .int .i64 0]
  rw [show (w.alloc (.cells #[.int .i64 L, .slice A0 n c, .int .i64 ro] 28)).heap.size = w.heap.size + 1 by simp] at hR
  obtain ⟨q0, q1, q2⟩ := hP.trio
  obtain ⟨r0, r1, r2, F0, F1, F2⟩ := hR.three
  have H0 := Lib.hid h0; clear h0
  have CG : Hid (∀ W, Below w.heap.size w W → _) := Lib.hid fun W hW => implVaE_any lo L ro n c A0 f W hn (H0.out.below hW (Nat.le_refl _))
  cases hv : vaB L ro n f with
  | false =>
    rw [hv] at CG
    clear hv
    go_enter Try.func19, Try.ntmps19
    go_upto_region 2 with (first
      | (go_at_call 45
         refine (CG.out _ hB).mono ?_
         rintro e w1 ⟨rfl, hb⟩
         clear q0 q1 q2 r0 r1 r2 F0 F1 F2
         replace hP := hP.below hb hP.lt
         replace hR := hR.below hb hR.lt
         replace hB := hB.trans (hb.mono hB.size)
         clear hb
         obtain ⟨q0, q1, q2⟩ := hP.trio
         obtain ⟨r0, r1, r2, F0, F1, F2⟩ := hR.three))
    go_wp2_with fail
    have hR2 := hR.dgPut (.int .i64 0) (.slice none 0 0) (.int .i64 0)
    obtain ⟨k0, k1, k2⟩ := hR2.trio
    refine bodyPost_ret (v := .tuple #[dgV 0 none 0 0 0, .bool false]) (by simp [results, Try.results19, go_sem, k0, k1, k2]; done) rfl ?_
    exact AnPost.no (((hB.setCell (p := ⟨w.heap.size + 1, 0, none⟩) (Nat.le_succ _) _).setCell (p := ⟨w.heap.size + 1, 1, none⟩) (Nat.le_succ _) _).setCell (p := ⟨w.heap.size + 1, 2, none⟩) (Nat.le_succ _) _)
  | true =>
    rw [hv] at CG
    have hvd := (vd_iff L ro n f).1 ((vaB_iff L ro n f).1 hv)
    obtain ⟨⟨hL, h4, hro, hs⟩, _⟩ := hvd
    obtain ⟨Ln, rfl⟩ : ∃ Ln : Nat, L = (Ln : Int) := ⟨L.toNat, by omega⟩
    obtain ⟨rn, rfl⟩ : ∃ rn : Nat, ro = (rn : Int) := ⟨ro.toNat, by omega⟩
    have hr : rn < n + 2 := by omega
    have hsh : Dg.Shp Ln (ndl n f) := by have := hs.shp; rwa [Int.toNat_natCast] at this
    have CR : Hid (∀ W, Below w.heap.size w W → _) := Lib.hid fun W hW => combined_any lo 0 Ln 3 rn 1 n 0 c 0 A0 none f (fun _ => 0) W hs (fun k hk => absurd hk (by omega)) (by omega) hn (by omega) hr (by omega) (by omega) (by omega) (H0.out.below hW (Nat.le_refl _)) (fun h => absurd h (by omega))
    have hD : cbD 3 Ln rn n f 1 0 (fun _ => 0) = ngD (Ln : Int) (rn : Int) n f := by
      unfold cbD ngD ngT
      rw [Int.toNat_natCast, Int.toNat_natCast, ev_all hsh (by rw [ndl_len]; exact hr)]
      rfl
    rw [hD] at CR
    generalize ngD (Ln : Int) (rn : Int) n f = D at CR ⊢
    clear hv hs h4 hro hD hsh
    go_enter Try.func19, Try.ntmps19
    go_wp2_with (first
      | (go_at_call 45
         refine (CG.out _ hB).mono ?_
         rintro e w1 ⟨rfl, hb⟩
         clear q0 q1 q2 r0 r1 r2 F0 F1 F2
         replace hP := hP.below hb hP.lt
         replace hR := hR.below hb hR.lt
         replace hB := hB.trans (hb.mono hB.size)
         clear hb
         obtain ⟨q0, q1, q2⟩ := hP.trio
         obtain ⟨r0, r1, r2, F0, F1, F2⟩ := hR.three)
      | (go_at_call 52
         refine (CR.out _ hB).mono ?_
         rintro e w3 ⟨A4, c4, rfl, hI4, hb4⟩
         have hl1 : w.heap.size + 1 < w1.heap.size := hR.lt
         have hR3 := hR.below hb4 hR.lt
         have HI4 := Lib.hid hI4
         have HB4 := Lib.hid (hB.trans (hb4.mono hB.size))
         clear q0 q1 q2 r0 r1 r2 F0 F1 F2 hP hR hB hb4 hI4
         obtain ⟨r0, r1, r2, F0, F1, F2⟩ := hR3.three))
    obtain ⟨k0, k1, k2⟩ := (hR3.dgPut (.int .i64 (Ln : Nat)) (.slice A4 D.2.length c4) (.int .i64 (D.1 : Nat))).trio
    refine bodyPost_ret (v := .tuple #[dgV (Ln : Nat) A4 D.2.length c4 (D.1 : Nat), .bool true]) (by simp [results, Try.results19, go_sem, k0, k1, k2]; done) rfl ?_
    exact an_stored HI4.out hl1 (Nat.le_succ _) (((HB4.out.setCell (p := ⟨w.heap.size + 1, 0, none⟩) (Nat.le_succ _) _).setCell (p := ⟨w.heap.size + 1, 1, none⟩) (Nat.le_succ _) _).setCell (p := ⟨w.heap.size + 1, 2, none⟩) (Nat.le_succ _) _)

end Go.Proofs.Ytamjfcckgeakfaa
