/-
  CountModels: the program.
-/
import Derived.Test.YtmobcahfalaaeaaDgCs
namespace Go.Proofs.Ytmobcahfalaaeaa
open Go.RowKit Num

/-- The counts of the first k references. -/
def cl (N : List Dg.Nd) (L k : Nat) : List Nat := (List.range k).map (Dg.cn N L L)
theorem cl_len (N : List Dg.Nd) (L k : Nat) : (cl N L k).length = k := by simp [cl]
theorem cl_get (N : List Dg.Nd) (L : Nat) {k j : Nat} (h : j < k) : (cl N L k).getD j 0 = Dg.cn N L L j := by simp [cl, List.getD_eq_getElem?_getD, h]
theorem cl_succ (N : List Dg.Nd) (L k : Nat) : cl N L (k + 1) = cl N L k ++ [Dg.cn N L L k] := by simp [cl, List.range_succ]

set_option maxRecDepth 100000 in
set_option maxHeartbeats 6400000 in
theorem implCm_any (lo : Nat) (L ro : Int) (n c : Nat) (A0 : Option Addr) (f : Nat → Int) (w : World) (hn : n ≤ 1048576) (h0 : IntsAt lo w A0 (n * 3) f) :
    Calls Try.prog 30 #[dgV L A0 n c ro] w fun e w' => e = .returned (.tuple #[.int .i64 (cmN L ro n f), .bool (cmB L ro n f)]) ∧ Below w.heap.size w w' := by
  have hP := Box.new w 24 #[.int .i64 L, .slice A0 n c, .int .i64 ro]
  have hB := (Below.refl w.heap.size w).alloc (Nat.le_refl _) (.cells #[.int .i64 L, .slice A0 n c, .int .i64 ro] 24)
  obtain ⟨q0, q1, q2⟩ := hP.trio
  have H0 := Lib.hid h0; clear h0
  have CG : Hid (∀ W, Below w.heap.size w W → _) := Lib.hid fun W hW => implVaE_any lo L ro n c A0 f W hn (H0.out.below hW (Nat.le_refl _))
  unfold cmN cmB
  cases hv : vaB L ro n f with
  | false =>
    rw [hv] at CG
    rw [if_neg (by simp)]
    clear hv
    go_enter Try.func30, Try.ntmps30
    go_wp2_with (go_at_call 28; refine (CG.out _ hB).mono ?_; rintro e w1 ⟨rfl, hb⟩)
    go_ret2
    exact ⟨rfl, hB.trans (hb.mono hB.size)⟩
  | true =>
    rw [hv] at CG
    rw [if_pos rfl]
    have hvd := (vd_iff L ro n f).1 ((vaB_iff L ro n f).1 hv)
    obtain ⟨⟨hL, h4, hro, hs⟩, _⟩ := hvd
    have hpw : 2 ^ L.toNat ≤ 1024 := Nat.le_trans (Nat.pow_le_pow_right (by omega) (show L.toNat ≤ 10 by omega)) (by decide)
    have HS := Lib.hid hs
    have hc0 : Dg.cn (ndl n f) L.toNat L.toNat 0 = 0 := by rw [Dg.cn_const _ _ _ _ (by omega)]; omega
    have hc1 : Dg.cn (ndl n f) L.toNat L.toNat 1 = 2 ^ L.toNat := by rw [Dg.cn_const _ _ _ _ (by omega)]; omega
    have hcl : Hid (∀ r, Dg.cn (ndl n f) L.toNat L.toNat r ≤ 1024) := Lib.hid fun r => Nat.le_trans (Dg.cn_le _ _ _ _) hpw
    have e2p : (2 : Int) ^ L.toNat = ((2 ^ L.toNat : Nat) : Int) := by simp
    have ew : wrap64 ((2 : Int) ^ L.toNat) = ((2 ^ L.toNat : Nat) : Int) := by rw [e2p]; exact wrap64_small (Int.natCast_nonneg _) (Int.ofNat_le.2 (Nat.le_trans hpw (by decide)))
    have hcr := hcl.out ro.toNat
    have HC1 := Lib.hid hc1
    have HC0 := Lib.hid hc0
    have hLn : 0 ≤ L := hL.1
    have er : ((ro.toNat : Nat) : Int) = ro := by omega
    obtain ⟨rn, hrn⟩ : ∃ rn : Nat, rn = ro.toNat := ⟨_, rfl⟩
    rw [← hrn] at er hcr ⊢
    clear hrn e2p hc0 hc1 hs hv
    subst er
    generalize hM : 2 ^ L.toNat = M at hpw ew HC1
    clear hM
    obtain ⟨i0, hi, hz0, hz1, hz2⟩ := info_parts Try.infoIntDg
    go_enter Try.func30, Try.ntmps30
    go_upto_region 4 with (go_at_call 28; refine (CG.out _ hB).mono ?_; rintro e w1 ⟨rfl, hb⟩; clear q0 q1 q2; replace hP := hP.below hb hP.lt; replace hB := hB.trans (hb.mono hB.size); clear hb; obtain ⟨q0, q1, q2⟩ := hP.trio)
    have hG := Box.new w1 3 #[.int .i64 0, .int .i64 (M : Nat)]
    replace hP := hP.alloc (.cells #[.int .i64 0, .int .i64 (M : Nat)] 3)
    replace hB := hB.alloc hB.size (.cells #[.int .i64 0, .int .i64 (M : Nat)] 3)
    have hlt := hP.lt
    have hgt : w.heap.size + 1 ≤ w1.heap.size := by
      have h1 := World.block_lt_of_cell? w1 ⟨w.heap.size, 0, none⟩ q0
      exact h1
    have hown : (w1.alloc (.cells #[.int .i64 0, .int .i64 (M : Nat)] 3)).ownsRow (w.heap.size + 1) 3 1 (.slice (some ⟨w1.heap.size, 0, none⟩) 2 2) (cl (ndl n f) L.toNat 2).length ((cl (ndl n f) L.toNat 2).map fun (r : Nat) => Value.int .i64 (r : Int)) := by
      rw [cl_len]
      refine ⟨by simp [cl_len], .inr ⟨w1.heap.size, 2, _, rfl, hgt, hG, Nat.le_refl _, by decide, rfl, ?_⟩⟩
      show [Value.int .i64 0, Value.int .i64 (M : Nat)] = _
      have e : cl (ndl n f) L.toNat 2 = [0, M] := by
        show [Dg.cn (ndl n f) L.toNat L.toNat 0, Dg.cn (ndl n f) L.toNat L.toNat 1] = _
        rw [HC0.out, HC1.out]
      rw [e]
      rfl
    clear q0 q1 q2 hG hgt CG
    generalize hW : World.alloc _ _ = W2 at hP hB hown hlt ⊢
    clear hW hlt
    obtain ⟨q0, q1, q2⟩ := hP.trio
    go_wp2_with fail
    clear q0 q1 q2
    rw [ew]
    clear ew
    go_loopg [4, 17] n (fun q v iv wr => ∃ k : Nat, k + q = n ∧ iv = .int .i64 (k : Nat) ∧ wr.ownsRow (w.heap.size + 1) 3 1 v (cl (ndl n f) L.toNat (k + 2)).length ((cl (ndl n f) L.toNat (k + 2)).map fun (r : Nat) => Value.int .i64 (r : Int)) ∧ Box wr w.heap.size 24 #[.int .i64 L, .slice A0 n c, .int .i64 (rn : Nat)] ∧ Below w.heap.size w wr)
    case atStart => exact ⟨0, by omega, rfl, hown, hP, hB⟩
    case round =>
      clear hown hP hB
      obtain ⟨k, hk, rfl, hown, hP, hB⟩ := hrel
      obtain ⟨q0, q1, q2⟩ := hP.trio
      obtain ⟨gv, mv, cv, rfl⟩ := own_slice hown
      obtain ⟨hm, hI⟩ := own_ints hown
      rw [cl_len] at hm hI
      subst hm
      by_cases hk0 : k < n
      · obtain ⟨b, off, rfl, hb, r0, r1, r2⟩ := (H0.out.below hB (Nat.le_refl _)).trio hk0
        obtain ⟨_, ⟨b1, b2⟩, ⟨c1, c2⟩, _⟩ := HS.out _ hk0
        have hnode := Dg.cn_node HS.out.shp (show 2 ≤ k + 2 by omega) (by rw [ndl_len]; omega)
        rw [nd_ndl f hk0] at hnode
        dsimp only at hnode
        obtain ⟨l, hl⟩ : ∃ l : Nat, l = (f (k * 3 + 1)).toNat := ⟨_, rfl⟩
        obtain ⟨h, hh⟩ : ∃ h : Nat, h = (f (k * 3 + 2)).toNat := ⟨_, rfl⟩
        rw [← hl, ← hh] at hnode
        rw [show f (k * 3 + 1) = (l : Int) by omega] at r1
        rw [show f (k * 3 + 2) = (h : Int) by omega] at r2
        have hl2 : l < k + 2 := by omega
        have hh2 : h < k + 2 := by omega
        have hl3 : (l : Int) < (k : Int) + 2 := by omega
        have hh3 : (h : Int) < (k : Int) + 2 := by omega
        obtain ⟨gb, goff, e1, _, y1⟩ := hI.at_ hl2
        obtain ⟨gb', goff', e2, _, y2⟩ := hI.at_ hh2
        rw [cl_get _ _ hl2] at y1
        rw [cl_get _ _ hh2] at y2
        subst e1
        cases e2
        have ha1 := hcl.out l
        have ha2 := hcl.out h
        have ha3 := hcl.out (k + 2)
        have HCS := Lib.hid (cl_succ (ndl n f) L.toNat (k + 2))
        generalize Dg.cn (ndl n f) L.toNat L.toNat l = a at hnode y1 ha1
        generalize Dg.cn (ndl n f) L.toNat L.toNat h = d at hnode y2 ha2
        generalize Dg.cn (ndl n f) L.toNat L.toNat (k + 2) = cc at hnode ha3 HCS
        have eadd : IntKind.i64.wrap ((a : Int) + (d : Int)) = (a : Int) + (d : Int) := IntWalk.i64_in _ (by omega)
        have equo : IntKind.i64.wrap (((a : Int) + (d : Int)) / 2) = (cc : Int) := by rw [IntWalk.i64_in _ (by omega)]; omega
        have ecc : IntKind.i64.wrap (cc : Int) = (cc : Int) := IntWalk.i64_in _ (by omega)
        have etd : ((a : Int) + (d : Int)).tdiv 2 = (cc : Int) := by rw [Int.tdiv_eq_ediv_of_nonneg (by omega)]; omega
        have hX := Box.new wr 63 #[.int .i64 (f (k * 3)), .int .i64 (l : Nat), .int .i64 (h : Nat)]
        have hP3 := hP.alloc (.cells #[.int .i64 (f (k * 3)), .int .i64 (l : Nat), .int .i64 (h : Nat)] 63)
        have hB3 := hB.alloc hB.size (.cells #[.int .i64 (f (k * 3)), .int .i64 (l : Nat), .int .i64 (h : Nat)] 63)
        have hO3 := hown.alloc (.cells #[.int .i64 (f (k * 3)), .int .i64 (l : Nat), .int .i64 (h : Nat)] 63)
        have hal := (Below.refl wr.heap.size wr).alloc (Nat.le_refl _) (.cells #[.int .i64 (f (k * 3)), .int .i64 (l : Nat), .int .i64 (h : Nat)] 63)
        have z1 := (hal.cell (World.block_lt_of_cell? wr _ y1)).trans y1
        have z2 := (hal.cell (World.block_lt_of_cell? wr _ y2)).trans y2
        have hlt := hP.lt
        obtain ⟨x0, x1, x2⟩ := hX.trio
        clear hnode ha1 ha2 hl hh b1 b2 c1 c2
        go_upto_region 7 with fail
        generalize hW3 : World.alloc _ _ = W3 at hX hP3 hB3 hO3 z1 z2 x0 x1 x2 ⊢
        clear hW3 hal y1 y2 r0 r1 r2 q0 q1 q2 hown hP hB hI hX
        have hO4 : W3.drew.ownsRow _ _ _ _ _ _ := hO3
        have hP4 : Box W3.drew w.heap.size _ _ := hP3
        have hB4 : Below w.heap.size w W3.drew := hB3.drew
        have hlt3 := hP3.lt
        have hll : (cl (ndl n f) L.toNat (k + 2)).length = k + 2 := cl_len _ _ _
        clear hO3 hP3 hB3
        go_region_law ((refine step_append_lies _ (by rfl) _ _ 44 (by rfl) (w.heap.size + 1) 3 i0 (.int .i64 0) 1 8 Try.underlying44 hi hz0 hz1 hz2 rfl (by decide) _ _ _ (by rfl) (hO4.alloc _) ⟨W3.heap.size, 0, none⟩ 1 1 [.int .i64 (cc : Nat)] (by rfl) rfl (cell_one_new W3.drew _ _) (by intro u hu; simp at hu; subst hu; rfl) (by omega) (by unfold maxLen; omega) (by omega) (by simp; omega) (W3.heap.size + 1) (by simp) ?_; intro g cap w7 hown7 hgrow7 hat7 hlt7))
        all_goals
          have HO8 : Hid (w7.ownsRow (w.heap.size + 1) 3 1 (.slice (some ⟨g, 0, none⟩) (k + 2 + 1) cap) (cl (ndl n f) L.toNat (k + 2 + 1)).length ((cl (ndl n f) L.toNat (k + 2 + 1)).map fun (r : Nat) => Value.int .i64 (r : Int))) := Lib.hid (by
            have h7 := hown7
            rw [HCS.out, List.length_append, List.map_append, cl_len]
            rw [cl_len] at h7
            exact h7)
          have HB8 : Hid (Below w.heap.size w w7) := Lib.hid (grown_below (hB4.alloc (by show w.heap.size ≤ W3.heap.size; omega) (.cells #[.int .i64 (cc : Nat)] 3)) hgrow7 (fun q hq => by
            by_cases hkb : q < w.heap.size + 1
            · exact absurd hq.symm (own_old hO4 hkb)
            · omega) (by simp; omega))
          have HP8 : Hid (Box w7 w.heap.size 24 _) := Lib.hid (grown_box hgrow7 (hP4.alloc _) (own_old hO4 (Nat.lt_succ_self _)))
          clear hown7 hgrow7 hat7 hlt7 hO4 hP4 hB4 z1 z2 x0 x1 x2
          go_wp2_with fail
          go_roundg (gk - 1)
          case rel => exact ⟨k + 1, by omega, by go_num, HO8.out, HP8.out, HB8.out⟩
          case measure => omega
      · obtain rfl : k = n := by omega
        obtain ⟨gb, goff, e1, _, y1⟩ := hI.at_ (show rn < k + 2 by omega)
        rw [cl_get _ _ (show rn < k + 2 by omega)] at y1
        subst e1
        go_wp2_with fail
        go_ret2
        exact ⟨rfl, hB⟩

end Go.Proofs.Ytmobcahfalaaeaa
