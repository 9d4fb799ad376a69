/-
  The law on CombineDiagrams.
-/
import Derived.Test.YtamjfcckgeakfaaDgCx
import Derived.Deep.RegionWith
namespace Go.Proofs.Ytamjfcckgeakfaa
open Go.RowKit Num

set_option maxRecDepth 100000 in
set_option maxHeartbeats 3200000 in
theorem markDgSF_any (lo hi : Nat) (A0 : Option Addr) (n cap : Nat) (K0 : Int) (w : World) (hk0 : 0 ≤ K0) (hk1 : K0 ≤ 100000000) (hn : n ≤ 1048576) (h : ShI lo hi w A0 (n * 3)) :
    Calls Try.prog 49 #[.slice A0 n cap, .int .i64 K0] w fun e w' => e = .returned (.int .i64 (K0 + ((n * 3 : Nat) : Int))) ∧ IntsAt lo w' A0 (n * 3) (fun j => K0 + (j : Int)) ∧ Marks lo hi w w' := by
  have H := Lib.hid h
  clear h
  go_enter Try.func49, Try.ntmps49
  go_wp2_with fail
  go_loopg [1, 5] n (fun q kv iv wr => ∃ (k : Nat) (x : Int), k + q = n ∧ iv = .int .i64 (k : Nat) ∧ kv = .int .i64 x ∧ Hid (x = K0 + ((k * 3 : Nat) : Int)) ∧ Hid (∀ b off, A0 = some ⟨b, off, none⟩ → ∀ j, j < k * 3 → wr.cell? ⟨b, off + j, none⟩ = some (.int .i64 (K0 + (j : Int)))) ∧ Marks lo hi w wr)
  case atStart => exact ⟨0, K0, by omega, rfl, rfl, Lib.hid (by omega), Lib.hid (fun b off _ j hj => absurd hj (by omega)), Marks.refl _ _ _⟩
  case round =>
    obtain ⟨k, x, hkq, rfl, rfl, hx, hdone, hmk⟩ := hrel
    by_cases hk0 : k < n
    · have hn0 : 0 < n * 3 := by omega
      have hsh := H.out
      obtain ⟨b0, off0, e0, hfw, hcw⟩ := hsh hn0
      obtain ⟨b, off, rfl, hf, hc⟩ := (hsh.marks hmk) hn0
      injection e0 with e0
      injection e0 with e1 e2 _
      subst e1 e2
      obtain ⟨z0, r0⟩ := hc (k * 3) (by omega)
      obtain ⟨z1, r1⟩ := hc (k * 3 + 1) (by omega)
      obtain ⟨z2, r2⟩ := hc (k * 3 + 2) (by omega)
      rw [← Nat.add_assoc] at r1 r2
      obtain ⟨y0, R0⟩ := hcw (k * 3) (by omega)
      obtain ⟨y1, R1⟩ := hcw (k * 3 + 1) (by omega)
      obtain ⟨y2, R2⟩ := hcw (k * 3 + 2) (by omega)
      rw [← Nat.add_assoc] at R1 R2
      have f0 := hf.2.2 (off + k * 3)
      have f1 := hf.2.2 (off + k * 3 + 1)
      have f2 := hf.2.2 (off + k * 3 + 2)
      have hf0 := hfw.1
      have hx1 : 0 ≤ x ∧ x ≤ 200000000000000000 := by have := hx.out; omega
      have w0 : IntKind.i64.wrap (x + 1) = x + 1 := IntWalk.i64_in _ (by omega)
      have w1 : IntKind.i64.wrap (x + 1 + 1) = x + 2 := by rw [IntWalk.i64_in _ (by omega)]; omega
      have w2 : IntKind.i64.wrap (x + 2 + 1) = x + 3 := by rw [IntWalk.i64_in _ (by omega)]; omega
      have hR : Hid (∀ j, j < (k + 1) * 3 → (((wr.setCell ⟨b, off + k * 3, none⟩ (.int .i64 x)).setCell ⟨b, off + k * 3 + 1, none⟩ (.int .i64 (x + 1))).setCell ⟨b, off + k * 3 + 2, none⟩ (.int .i64 (x + 2))).cell? ⟨b, off + j, none⟩ = some (.int .i64 (K0 + (j : Int)))) := Lib.hid fun j hj => by
        have hx0 := hx.out
        have ne : ∀ i i' : Nat, i ≠ i' → (⟨b, i, none⟩ : Addr) ≠ ⟨b, i', none⟩ := fun i i' h e => by injection e with _ e2 _; exact h e2
        by_cases j2 : j = k * 3 + 2
        · subst j2
          rw [← Nat.add_assoc, World.cell?_setCell_same _ _ _ (by rw [World.cell?_setCell_other _ _ _ _ (ne _ _ (by omega)), World.cell?_setCell_other _ _ _ _ (ne _ _ (by omega))]; exact r2)]
          rw [show x + 2 = K0 + ((k * 3 + 2 : Nat) : Int) by omega]
        · rw [World.cell?_setCell_other _ _ _ _ (ne _ _ (by omega))]
          by_cases j1 : j = k * 3 + 1
          · subst j1
            rw [← Nat.add_assoc, World.cell?_setCell_same _ _ _ (by rw [World.cell?_setCell_other _ _ _ _ (ne _ _ (by omega))]; exact r1)]
            rw [show x + 1 = K0 + ((k * 3 + 1 : Nat) : Int) by omega]
          · rw [World.cell?_setCell_other _ _ _ _ (ne _ _ (by omega))]
            by_cases j0 : j = k * 3
            · subst j0
              rw [World.cell?_setCell_same _ _ _ r0, hx0]
            · rw [World.cell?_setCell_other _ _ _ _ (ne _ _ (by omega))]
              exact hdone.out _ _ rfl j (by omega)
      clear hc hcw hf hfw hsh
      go_wp2_with fail
      go_roundg (gk - 1)
      case rel =>
        refine ⟨k + 1, _, by omega, by go_num, rfl, Lib.hid (by have := hx.out; omega), Lib.hid (fun b' off' e j hj => ?_), ((hmk.put R0 hf0 _).put R1 hf0 _).put R2 hf0 _⟩
        injection e with e
        injection e with e1 e2 _
        subst e1 e2
        exact hR.out j hj
      case measure => omega
    · obtain rfl : k = n := by omega
      go_wp2_with fail
      go_ret
      refine ⟨congrArg (fun z => Ending.returned (.int .i64 z)) hx.out, fun h0 => ?_, hmk⟩
      obtain ⟨b, off, rfl, hs, _⟩ := H.out h0
      exact ⟨b, off, rfl, ⟨hs.1.1, Nat.lt_of_lt_of_le hs.2.1 hmk.size, fun _ i => (hmk.fro b i hs.2.1).trans (hs.2.2 i)⟩, hdone.out b off rfl⟩

set_option maxRecDepth 100000 in
theorem markDgF_any (lo hi : Nat) (L r : Int) (A0 : Option Addr) (n cap : Nat) (K0 : Int) (w : World) (hk0 : 0 ≤ K0) (hk1 : K0 ≤ 100000000) (hn : n ≤ 1048576) (h : ShI lo hi w A0 (n * 3)) :
    Calls Try.prog 14 #[dgV L A0 n cap r, .int .i64 K0] w fun e w' => e = .returned (.int .i64 (K0 + ((n * 3 : Nat) : Int))) ∧ IntsAt lo w' A0 (n * 3) (fun j => K0 + (j : Int)) ∧ Marks lo hi w w' := by
  have hP := Box.new w 28 #[.int .i64 L, .slice A0 n cap, .int .i64 r]
  obtain ⟨q0, q1, q2⟩ := hP.trio
  have hB := (Below.refl w.heap.size w).alloc (Nat.le_refl _) (.cells #[.int .i64 L, .slice A0 n cap, .int .i64 r] 28)
  have C : Hid _ := Lib.hid (markDgSF_any lo hi A0 n cap K0 _ hk0 hk1 hn (h.marks (.of_below (lo := lo) (hi := hi) hB)))
  clear h
  go_enter Try.func14, Try.ntmps14
  go_wp2_with (go_at_call 49; refine C.out.mono ?_; rintro e w1 ⟨rfl, hi, hm⟩)
  go_ret
  exact ⟨rfl, hi, (Marks.of_below hB).trans hm⟩

theorem lawCbDg_le (op L r M s : Int) (n m : Nat) (f g : Nat → Int) : anN (cbO op L r n f M s m g) (cbD op.toNat L.toNat r.toNat n f s.toNat m g) ≤ 1048576 := by
  unfold anN
  split
  · rename_i h
    unfold cbO at h
    obtain ⟨h, _⟩ := Bool.and_eq_true_iff.1 h
    obtain ⟨h, _⟩ := Bool.and_eq_true_iff.1 h
    obtain ⟨⟨hL, _, _, _⟩, _⟩ := (vd_iff L r n f).1 ((vaB_iff L r n f).1 (Bool.and_eq_true_iff.1 h).2)
    have hpw : 2 ^ L.toNat ≤ 1024 := Nat.le_trans (Nat.pow_le_pow_right (by omega) (show L.toNat ≤ 10 by omega)) (by decide)
    have := bld_len (fun j => opB op.toNat (Dg.evT (ndl n f) L.toNat r.toNat j) (Dg.evT (ndl m g) L.toNat s.toNat j)) L.toNat L.toNat 0 []
    rw [List.length_nil] at this
    unfold cbD
    omega
  · omega

set_option maxRecDepth 100000 in
set_option maxHeartbeats 6400000 in
theorem lawCbDg_any (op L r M s : Int) (A0 A1 : Option Addr) (n m c0 c1 : Nat) (f g : Nat → Int) (w : World) (hn : n ≤ 9223372036854775807) (hm : m ≤ 9223372036854775807) (h0 : IntsAt 0 w A0 (n * 3) f) (h1 : IntsAt 0 w A1 (m * 3) g) :
    Calls Try.prog 4 #[.int .i64 op, dgV L A0 n c0 r, dgV M A1 m c1 s] w fun e w' => e = .returned (.bool true) ∧ Below w.heap.size w w' := by
  have hP := (Box.new w 24 #[.int .i64 L, .slice A0 n c0, .int .i64 r]).alloc (.cells #[.int .i64 M, .slice A1 m c1, .int .i64 s] 24)
  have hQ := Box.new (w.alloc (.cells #[.int .i64 L, .slice A0 n c0, .int .i64 r] 24)) 24 #[.int .i64 M, .slice A1 m c1, .int .i64 s]
  rw [show (w.alloc (.cells #[.int .i64 L, .slice A0 n c0, .int .i64 r] 24)).heap.size = w.heap.size + 1 by simp] at hQ
  have hB : Below w.heap.size w ((w.alloc (.cells #[.int .i64 L, .slice A0 n c0, .int .i64 r] 24)).alloc (.cells #[.int .i64 M, .slice A1 m c1, .int .i64 s] 24)) := ((Below.refl _ w).alloc (Nat.le_refl _) _).alloc (by simp) _
  obtain ⟨q0, q1, q2⟩ := hP.trio
  obtain ⟨u0, u1, u2⟩ := hQ.trio
  have CZ1 : Hid (∀ W, _) := Lib.hid fun W => szDg_any L r A0 n c0 1048576 W hn (by omega) (by omega)
  have CZ2 : Hid (∀ (l : Int) W, 0 ≤ l → l ≤ 1048576 → _) := Lib.hid fun l W a b => szDg_any M s A1 m c1 l W hm a b
  have H := Lib.hid h0
  have K := Lib.hid h1
  clear h0 h1
  go_enter Try.func4, Try.ntmps4
  go_upto_region 8 with (first
    | (go_at_call 9
       with_reducible refine (CZ1.out _).mono ?_
       rintro e w1 ⟨⟨r1, rfl, hr1⟩, hb⟩
       have hl1 : r1 ≤ 1048576 := hr1.out.1
       clear q0 q1 q2 u0 u1 u2
       replace hP := hP.below hb hP.lt
       replace hQ := hQ.below hb hQ.lt
       replace hB := hB.trans (hb.mono hB.size)
       clear hb
       obtain ⟨q0, q1, q2⟩ := hP.trio
       obtain ⟨u0, u1, u2⟩ := hQ.trio)
    | (go_at_call 9
       with_reducible refine (CZ2.out _ _ (by omega) (by omega)).mono ?_
       rintro e w2 ⟨⟨r2, rfl, hr2⟩, hb⟩
       clear q0 q1 q2 u0 u1 u2
       replace hP := hP.below hb hP.lt
       replace hQ := hQ.below hb hQ.lt
       replace hB := hB.trans (hb.mono hB.size)
       clear hb
       obtain ⟨q0, q1, q2⟩ := hP.trio
       obtain ⟨u0, u1, u2⟩ := hQ.trio))
  all_goals first
    | (go_ret
       exact ⟨rfl, hB⟩)
    | skip
  have SP : Hid (n ≤ 1048576) := Lib.hid (hr1.out.2 (by omega))
  have SQ : Hid (m ≤ 1048576) := Lib.hid (hr2.out.2 (by omega))
  have CP : Hid (∀ W, Below w.heap.size w W → _) := Lib.hid fun W hW => toDg_any 0 L r A0 n c0 f W SP.out (H.out.below hW (Nat.le_refl _))
  have CQ : Hid (∀ W, Below w.heap.size w W → _) := Lib.hid fun W hW => toDg_any 0 M s A1 m c1 g W SQ.out (K.out.below hW (Nat.le_refl _))
  have CS : Hid (∀ (l1 l2 g1 k1 : Nat) (W : World), IntsAt l1 W (some ⟨g1, 0, none⟩) (n * 3) f → IntsAt l2 W (some ⟨k1, 0, none⟩) (m * 3) g → Calls Try.prog 16 #[.int .i64 op, dgV L (some ⟨g1, 0, none⟩) n n r, dgV M (some ⟨k1, 0, none⟩) m m s] W (DgPost (anL (cbO op L r n f M s m g) L) (anR (cbO op L r n f M s m g) (cbD op.toNat L.toNat r.toNat n f s.toNat m g)) (anN (cbO op L r n f M s m g) (cbD op.toNat L.toNat r.toNat n f s.toNat m g)) (nf (cbD op.toNat L.toNat r.toNat n f s.toNat m g).2) (cbO op L r n f M s m g) W)) := Lib.hid fun l1 l2 g1 k1 W x y => specCb_any l1 l2 op L r M s n m n m (some ⟨g1, 0, none⟩) (some ⟨k1, 0, none⟩) f g W SP.out SQ.out x y
  have CM : Hid (∀ (l1 l2 g1 k1 : Nat) (W : World), IntsAt l1 W (some ⟨g1, 0, none⟩) (n * 3) f → IntsAt l2 W (some ⟨k1, 0, none⟩) (m * 3) g → Calls Try.prog 17 #[.int .i64 op, dgV L (some ⟨g1, 0, none⟩) n n r, dgV M (some ⟨k1, 0, none⟩) m m s] W (DgPost (anL (cbO op L r n f M s m g) L) (anR (cbO op L r n f M s m g) (cbD op.toNat L.toNat r.toNat n f s.toNat m g)) (anN (cbO op L r n f M s m g) (cbD op.toNat L.toNat r.toNat n f s.toNat m g)) (nf (cbD op.toNat L.toNat r.toNat n f s.toNat m g).2) (cbO op L r n f M s m g) W)) := Lib.hid fun l1 l2 g1 k1 W x y => implCb_any l1 l2 op L r M s n m n m (some ⟨g1, 0, none⟩) (some ⟨k1, 0, none⟩) f g W SP.out SQ.out x y
  have CE : Hid (∀ (l1 l2 g1 k1 : Nat) (W : World), IntsAt l1 W (some ⟨g1, 0, none⟩) (n * 3) f → IntsAt l2 W (some ⟨k1, 0, none⟩) (n * 3) f → _) := Lib.hid fun l1 l2 g1 k1 W x y => eqDg_any l1 l2 L r (some ⟨g1, 0, none⟩) (some ⟨k1, 0, none⟩) n n n f W SP.out x y
  have CF : Hid (∀ (l1 l2 g1 k1 : Nat) (W : World), IntsAt l1 W (some ⟨g1, 0, none⟩) (m * 3) g → IntsAt l2 W (some ⟨k1, 0, none⟩) (m * 3) g → _) := Lib.hid fun l1 l2 g1 k1 W x y => eqDg_any l1 l2 M s (some ⟨g1, 0, none⟩) (some ⟨k1, 0, none⟩) m m m g W SQ.out x y
  have hN : anN (cbO op L r n f M s m g) (cbD op.toNat L.toNat r.toNat n f s.toNat m g) ≤ 1048576 := lawCbDg_le op L r M s n m f g
  generalize anL (cbO op L r n f M s m g) L = L' at CS CM
  generalize anR (cbO op L r n f M s m g) (cbD op.toNat L.toNat r.toNat n f s.toNat m g) = r' at CS CM
  generalize anN (cbO op L r n f M s m g) (cbD op.toNat L.toNat r.toNat n f s.toNat m g) = N at CS CM hN
  generalize nf (cbD op.toNat L.toNat r.toNat n f s.toNat m g).2 = F at CS CM
  generalize (cbO op L r n f M s m g) = ok at CS CM
  have n3 : (ok != ok) = false := by cases ok <;> rfl
  obtain ⟨Q, hQ0⟩ : ∃ Q, Q = 1 + ((N * 3 : Nat) : Int) := ⟨_, rfl⟩
  have dM : decide (Q < 0) = false := decide_eq_false (by omega)
  have nM : (Q != Q) = false := bne_self_eq_false _
  obtain ⟨K1, hK1⟩ : ∃ K1, K1 = 1 + ((n * 3 : Nat) : Int) := ⟨_, rfl⟩
  obtain ⟨K2, hK2⟩ : ∃ K2, K2 = K1 + ((m * 3 : Nat) : Int) := ⟨_, rfl⟩
  have dK : decide (K2 < 0) = false := decide_eq_false (by omega)
  have CI : Hid (∀ (l1 l2 : Nat) (A B : Option Addr) (c d : Nat) (W : World), IntsAt l1 W A (N * 3) F → IntsAt l2 W B (N * 3) F → _) := Lib.hid fun l1 l2 A B c d W x y => eqDg_any l1 l2 L' r' A B N c d F W hN x y
  have CO : Hid (∀ (l1 l2 : Nat) (A : Option Addr) (c : Nat) (W : World), ShI l1 l2 W A (N * 3) → _) := Lib.hid fun l1 l2 A c W x => markDg_any l1 l2 L' r' A N c W hN x
  have CH : Hid (∀ (l : Nat) (A : Option Addr) (c : Nat) (W : World), IntsAt l W A (N * 3) (fun j => 1 + (j : Int)) → _) := Lib.hid fun l A c W x => heldDg_any l L' r' A N c W hN x
  have CD1 : Hid (∀ (l1 l2 : Nat) (A : Option Addr) (c : Nat) (W : World), ShI l1 l2 W A (n * 3) → _) := Lib.hid fun l1 l2 A c W x => markDg_any l1 l2 L r A n c W SP.out x
  have CD2 : Hid (∀ (l1 l2 : Nat) (A : Option Addr) (c : Nat) (W : World), ShI l1 l2 W A (m * 3) → _) := Lib.hid fun l1 l2 A c W x => markDgF_any l1 l2 M s A m c K1 W (by omega) (by have := SP.out; omega) SQ.out x
  rw [← hQ0] at CO CH
  rw [← hK1] at CD1
  rw [← hK2] at CD2
  clear hl1 hr1 hr2 H K CZ1 CZ2 SP SQ hQ0 hK1 hK2
  have HBB := Lib.hid hB
  have hpl := hP.lt
  have hql := hQ.lt
  go_cut [8, 9] (fun v8 v9 wx => ∃ (G : Nat) (A5 : Option Addr) (c5 lo5 : Nat), v8 = .pointer (some ⟨G, 0, none⟩) ∧ v9 = .bool ok ∧ w2.heap.size ≤ G ∧ Box wx G 28 #[.int .i64 L', .slice A5 N c5, .int .i64 r'] ∧ IntsAt lo5 wx A5 (N * 3) F ∧ Below w2.heap.size w2 wx)
  case first =>
    clear hB hP hQ CE CF CI CO CH CD1 CD2 CM
    refine wp_region_held_drew (S := (fun w' => w'.cell? ⟨w.heap.size, 0, none⟩ = some (.int .i64 L) ∧ w'.cell? ⟨w.heap.size, 1, none⟩ = some (.slice A0 n c0) ∧ w'.cell? ⟨w.heap.size, 2, none⟩ = some (.int .i64 r) ∧ w'.cell? ⟨w.heap.size + 1, 0, none⟩ = some (.int .i64 M) ∧ w'.cell? ⟨w.heap.size + 1, 1, none⟩ = some (.slice A1 m c1) ∧ w'.cell? ⟨w.heap.size + 1, 2, none⟩ = some (.int .i64 s) ∧ Below w2.heap.size w2 w')) (by kernel_rfl) ?_ (fun hHeld => ?_)
    · (try dsimp only); (suffices hBB : Below w2.heap.size w2 _ from ⟨(hBB.cell hpl).trans q0, (hBB.cell hpl).trans q1, (hBB.cell hpl).trans q2, (hBB.cell hql).trans u0, (hBB.cell hql).trans u1, (hBB.cell hql).trans u2, hBB⟩; first | with_reducible exact (Below.refl _ w2).drew | with_reducible exact heldE3 (by assumption) | (with_reducible refine stepB (heldE3 (by assumption)) ?_; with_reducible assumption) | with_reducible exact Below.alloc (heldE3 (by assumption)) (Below.size (heldE3 (by assumption))) _ | exact Below.setCell (p := ⟨_, 2, none⟩) (Below.setCell (p := ⟨_, 1, none⟩) (Below.setCell (p := ⟨_, 0, none⟩) (heldE3 (by assumption)) hge _) hge _) hge _ | exact Below.alloc (heldE3 (by assumption)) (Below.size (heldE3 (by assumption))) _)
    refine wpAnyH_take (i := 0) (v := .int .i64 op) rfl (by kernel_rfl) (by kernel_rfl) (by kernel_rfl) (fun _ _ _ h => h) (Or.inl ⟨by rfl, ?_⟩) (by assumption) ?_
    · intro w' hSw; (try dsimp only at hSw); go_simp
    (try simp only [Act.put, List.getElem_toArray, List.getElem_cons_zero, List.setIfInBounds_toArray, List.set_cons_zero, List.set_cons_succ])
    refine wpAnyH_take (i := 1) (v := .agg #[.int .i64 L, .slice A0 n c0, .int .i64 r]) rfl (by kernel_rfl) (by kernel_rfl) (by kernel_rfl) (fun _ _ _ h => h) (Or.inl ⟨by rfl, ?_⟩) (by assumption) ?_
    · intro w' hSw; (try dsimp only at hSw); go_simp
    (try simp only [Act.put, List.getElem_toArray, List.getElem_cons_zero, List.getElem_cons_succ, List.setIfInBounds_toArray, List.set_cons_zero, List.set_cons_succ])
    refine wpAnyH_take (i := 3) (v := .agg #[.int .i64 M, .slice A1 m c1, .int .i64 s]) rfl (by kernel_rfl) (by kernel_rfl) (by kernel_rfl) (fun _ _ _ h => h) (Or.inl ⟨by rfl, ?_⟩) (by assumption) ?_
    · intro w' hSw; (try dsimp only at hSw); go_simp
    (try simp only [Act.put, List.getElem_toArray, List.getElem_cons_zero, List.getElem_cons_succ, List.setIfInBounds_toArray, List.set_cons_zero, List.set_cons_succ])
    refine wpAnyH_ready (rs := [2, 9]) (by kernel_rfl) (by simp) ?_
    refine (AllReadyH.cons rfl (fun K hK => ?_) (AllReadyH.cons rfl (fun K hK => ?_) AllReadyH.nil))
    · -- the call
      go_simp
      go_wp2_with (go_at_call_of 11 (Value.agg #[.int .i64 L, .slice A0 n c0, .int .i64 r]); (with_reducible refine (CP.out _ (HBB.out.trans ((heldE3 (by assumption)).mono HBB.out.size))).mono ?_); rintro e wa ⟨⟨ga, rfl, ha⟩, hba⟩)
      refine hK.out _ _ ?_ (fun hHeld => ?_)
      · (try dsimp only); (suffices hBB : Below w2.heap.size w2 _ from ⟨(hBB.cell hpl).trans q0, (hBB.cell hpl).trans q1, (hBB.cell hpl).trans q2, (hBB.cell hql).trans u0, (hBB.cell hql).trans u1, (hBB.cell hql).trans u2, hBB⟩; first | with_reducible exact (Below.refl _ w2).drew | with_reducible exact heldE3 (by assumption) | (with_reducible refine stepB (heldE3 (by assumption)) ?_; with_reducible assumption) | with_reducible exact Below.alloc (heldE3 (by assumption)) (Below.size (heldE3 (by assumption))) _ | exact Below.setCell (p := ⟨_, 2, none⟩) (Below.setCell (p := ⟨_, 1, none⟩) (Below.setCell (p := ⟨_, 0, none⟩) (heldE3 (by assumption)) hge _) hge _) hge _ | exact Below.alloc (heldE3 (by assumption)) (Below.size (heldE3 (by assumption))) _)
      clear hK K
      have HA := Lib.hid ha
      clear ha
      have hza : w2.heap.size ≤ wa.heap.size := (heldE3 hHeld).size
      (try simp only [Act.put, List.getElem_toArray, List.getElem_cons_zero, List.getElem_cons_succ, List.setIfInBounds_toArray, List.set_cons_zero, List.set_cons_succ])
      refine wpAnyH_ready (rs := [4, 9]) (by kernel_rfl) (by simp) ?_
      refine (AllReadyH.cons rfl (fun K hK => ?_) (AllReadyH.cons rfl (fun K hK => ?_) AllReadyH.nil))
      · -- the call
        go_simp
        go_wp2_with (go_at_call_of 11 (Value.agg #[.int .i64 M, .slice A1 m c1, .int .i64 s]); (with_reducible refine (CQ.out _ (HBB.out.trans ((heldE3 (by assumption)).mono HBB.out.size))).mono ?_); rintro e wb ⟨⟨gb, rfl, hb0⟩, hbb⟩)
        refine hK.out _ _ ?_ (fun hHeld => ?_)
        · (try dsimp only); (suffices hBB : Below w2.heap.size w2 _ from ⟨(hBB.cell hpl).trans q0, (hBB.cell hpl).trans q1, (hBB.cell hpl).trans q2, (hBB.cell hql).trans u0, (hBB.cell hql).trans u1, (hBB.cell hql).trans u2, hBB⟩; first | with_reducible exact (Below.refl _ w2).drew | with_reducible exact heldE3 (by assumption) | (with_reducible refine stepB (heldE3 (by assumption)) ?_; with_reducible assumption) | with_reducible exact Below.alloc (heldE3 (by assumption)) (Below.size (heldE3 (by assumption))) _ | exact Below.setCell (p := ⟨_, 2, none⟩) (Below.setCell (p := ⟨_, 1, none⟩) (Below.setCell (p := ⟨_, 0, none⟩) (heldE3 (by assumption)) hge _) hge _) hge _ | exact Below.alloc (heldE3 (by assumption)) (Below.size (heldE3 (by assumption))) _)
        clear hK K
        have HD := Lib.hid hb0
        clear hb0
        replace HA := Lib.hid (HA.out.below hbb (Nat.le_refl _))
        have hzb : w2.heap.size ≤ wb.heap.size := (heldE3 hHeld).size
        (try simp only [Act.put, List.getElem_toArray, List.getElem_cons_zero, List.getElem_cons_succ, List.setIfInBounds_toArray, List.set_cons_zero, List.set_cons_succ])
        refine wpAnyH_ready (rs := [5, 9]) (by kernel_rfl) (by simp) ?_
        refine (AllReadyH.cons rfl (fun K hK => ?_) (AllReadyH.cons rfl (fun K hK => ?_) AllReadyH.nil))
        · -- the call
          go_simp
          go_wp2_with (go_at_call 16; (with_reducible refine (CS.out _ _ _ _ _ HA.out HD.out).mono ?_); rintro e wf ⟨A5, c5, rfl, hf0, hbf⟩)
          refine hK.out _ _ ?_ (fun hHeld => ?_)
          · (try dsimp only); (suffices hBB : Below w2.heap.size w2 _ from ⟨(hBB.cell hpl).trans q0, (hBB.cell hpl).trans q1, (hBB.cell hpl).trans q2, (hBB.cell hql).trans u0, (hBB.cell hql).trans u1, (hBB.cell hql).trans u2, hBB⟩; first | with_reducible exact (Below.refl _ w2).drew | with_reducible exact heldE3 (by assumption) | (with_reducible refine stepB (heldE3 (by assumption)) ?_; with_reducible assumption) | with_reducible exact Below.alloc (heldE3 (by assumption)) (Below.size (heldE3 (by assumption))) _ | exact Below.setCell (p := ⟨_, 2, none⟩) (Below.setCell (p := ⟨_, 1, none⟩) (Below.setCell (p := ⟨_, 0, none⟩) (heldE3 (by assumption)) hge _) hge _) hge _ | exact Below.alloc (heldE3 (by assumption)) (Below.size (heldE3 (by assumption))) _)
          clear hK K
          have HF := Lib.hid hf0
          clear hf0 HA HD
          have hzf : w2.heap.size ≤ wf.heap.size := (heldE3 hHeld).size
          (try simp only [Act.put, List.getElem_toArray, List.getElem_cons_zero, List.getElem_cons_succ, List.setIfInBounds_toArray, List.set_cons_zero, List.set_cons_succ])
          refine wpAnyH_take (i := 6) (v := .tuple #[dgV L' A5 N c5 r', .bool ok]) rfl (by kernel_rfl) (by kernel_rfl) (by kernel_rfl) (fun _ _ _ h => h) (Or.inl ⟨by rfl, ?_⟩) (by assumption) ?_
          · intro w' hSw; (try dsimp only at hSw); go_simp
          (try simp only [Act.put, List.getElem_toArray, List.getElem_cons_zero, List.getElem_cons_succ, List.setIfInBounds_toArray, List.set_cons_zero, List.set_cons_succ])
          refine wpAnyH_take (i := 7) (v := dgV L' A5 N c5 r') rfl (by kernel_rfl) (by kernel_rfl) (by kernel_rfl) (fun _ _ _ h => h) (Or.inl ⟨by rfl, ?_⟩) (by assumption) ?_
          · intro w' hSw; (try dsimp only at hSw); go_simp
          (try simp only [Act.put, List.getElem_toArray, List.getElem_cons_zero, List.getElem_cons_succ, List.setIfInBounds_toArray, List.set_cons_zero, List.set_cons_succ])
          refine wpAnyH_take (i := 8) (v := .bool ok) rfl (by kernel_rfl) (by kernel_rfl) (by kernel_rfl) (fun _ _ _ h => h) (Or.inl ⟨by rfl, ?_⟩) (by assumption) ?_
          · intro w' hSw; (try dsimp only at hSw); go_simp
          (try simp only [Act.put, List.getElem_toArray, List.getElem_cons_zero, List.getElem_cons_succ, List.setIfInBounds_toArray, List.set_cons_zero, List.set_cons_succ])
          have hc8 := True.intro
          refine wpAnyH_ready (rs := [9]) (by kernel_rfl) (by simp) ?_
          refine (AllReadyH.cons rfl (fun K hK => ?_) AllReadyH.nil)
          go_simp
          (try go_wp2_with fail)
          refine hK.out _ _ ?_ (fun hHeld => ?_)
          · (try dsimp only); (suffices hBB : Below w2.heap.size w2 _ from ⟨(hBB.cell hpl).trans q0, (hBB.cell hpl).trans q1, (hBB.cell hpl).trans q2, (hBB.cell hql).trans u0, (hBB.cell hql).trans u1, (hBB.cell hql).trans u2, hBB⟩; first | with_reducible exact (Below.refl _ w2).drew | with_reducible exact heldE3 (by assumption) | (with_reducible refine stepB (heldE3 (by assumption)) ?_; with_reducible assumption) | with_reducible exact Below.alloc (heldE3 (by assumption)) (Below.size (heldE3 (by assumption))) _ | exact Below.setCell (p := ⟨_, 2, none⟩) (Below.setCell (p := ⟨_, 1, none⟩) (Below.setCell (p := ⟨_, 0, none⟩) (heldE3 (by assumption)) hge _) hge _) hge _ | exact Below.alloc (heldE3 (by assumption)) (Below.size (heldE3 (by assumption))) _)
          clear hK K
          have hX := Box.new wf 28 #[.int .i64 0, .slice none 0 0, .int .i64 0]
          have hge := hzf
          (try simp only [Act.put, List.getElem_toArray, List.getElem_cons_zero, List.getElem_cons_succ, List.setIfInBounds_toArray, List.set_cons_zero, List.set_cons_succ])
          obtain ⟨x0, x1, x2, F0, F1, F2⟩ := hX.three
          refine wpAnyH_ready (rs := [10]) (by kernel_rfl) (by simp) ?_
          refine (AllReadyH.cons rfl (fun K hK => ?_) AllReadyH.nil)
          go_simp
          (try go_wp2_with fail)
          refine hK.out _ _ ?_ (fun hHeld => ?_)
          · (try dsimp only); (suffices hBB : Below w2.heap.size w2 _ from ⟨(hBB.cell hpl).trans q0, (hBB.cell hpl).trans q1, (hBB.cell hpl).trans q2, (hBB.cell hql).trans u0, (hBB.cell hql).trans u1, (hBB.cell hql).trans u2, hBB⟩; first | with_reducible exact (Below.refl _ w2).drew | with_reducible exact heldE3 (by assumption) | (with_reducible refine stepB (heldE3 (by assumption)) ?_; with_reducible assumption) | with_reducible exact Below.alloc (heldE3 (by assumption)) (Below.size (heldE3 (by assumption))) _ | exact Below.setCell (p := ⟨_, 2, none⟩) (Below.setCell (p := ⟨_, 1, none⟩) (Below.setCell (p := ⟨_, 0, none⟩) (heldE3 (by assumption)) hge _) hge _) hge _ | exact Below.alloc (heldE3 (by assumption)) (Below.size (heldE3 (by assumption))) _)
          clear hK K
          (try simp only [Act.put, List.getElem_toArray, List.getElem_cons_zero, List.getElem_cons_succ, List.setIfInBounds_toArray, List.set_cons_zero, List.set_cons_succ])
          refine wpAnyH_ready (rs := [11]) (by kernel_rfl) (by simp) ?_
          refine (AllReadyH.cons rfl (fun K hK => ?_) AllReadyH.nil)
          go_simp
          (try go_wp2_with fail)
          refine hK.out _ _ ?_ (fun hHeld => ?_)
          · (try dsimp only); (suffices hBB : Below w2.heap.size w2 _ from ⟨(hBB.cell hpl).trans q0, (hBB.cell hpl).trans q1, (hBB.cell hpl).trans q2, (hBB.cell hql).trans u0, (hBB.cell hql).trans u1, (hBB.cell hql).trans u2, hBB⟩; first | with_reducible exact (Below.refl _ w2).drew | with_reducible exact heldE3 (by assumption) | (with_reducible refine stepB (heldE3 (by assumption)) ?_; with_reducible assumption) | with_reducible exact Below.alloc (heldE3 (by assumption)) (Below.size (heldE3 (by assumption))) _ | exact Below.setCell (p := ⟨_, 2, none⟩) (Below.setCell (p := ⟨_, 1, none⟩) (Below.setCell (p := ⟨_, 0, none⟩) (heldE3 (by assumption)) hge _) hge _) hge _ | exact Below.alloc (heldE3 (by assumption)) (Below.size (heldE3 (by assumption))) _)
          clear hK K
          (try simp only [Act.put, List.getElem_toArray, List.getElem_cons_zero, List.getElem_cons_succ, List.setIfInBounds_toArray, List.set_cons_zero, List.set_cons_succ])
          refine wpAnyH_done (by kernel_rfl) ?_ _
          go_wp2_with fail
          go_meet
          exact ⟨_, A5, c5, _, rfl, rfl, hge, Box.new _ _ _, HF.out.below ((Below.refl _ wf).alloc (Nat.le_refl _) _) (Nat.le_refl _), heldE3 (by assumption)⟩
        · -- the box
          go_simp
          (try go_wp2_with fail)
          refine hK.out _ _ ?_ (fun hHeld => ?_)
          · (try dsimp only); (suffices hBB : Below w2.heap.size w2 _ from ⟨(hBB.cell hpl).trans q0, (hBB.cell hpl).trans q1, (hBB.cell hpl).trans q2, (hBB.cell hql).trans u0, (hBB.cell hql).trans u1, (hBB.cell hql).trans u2, hBB⟩; first | with_reducible exact (Below.refl _ w2).drew | with_reducible exact heldE3 (by assumption) | (with_reducible refine stepB (heldE3 (by assumption)) ?_; with_reducible assumption) | with_reducible exact Below.alloc (heldE3 (by assumption)) (Below.size (heldE3 (by assumption))) _ | exact Below.setCell (p := ⟨_, 2, none⟩) (Below.setCell (p := ⟨_, 1, none⟩) (Below.setCell (p := ⟨_, 0, none⟩) (heldE3 (by assumption)) hge _) hge _) hge _ | exact Below.alloc (heldE3 (by assumption)) (Below.size (heldE3 (by assumption))) _)
          clear hK K
          have hX := Box.new wb 28 #[.int .i64 0, .slice none 0 0, .int .i64 0]
          have hge := hzb
          replace HA := Lib.hid (HA.out.below ((Below.refl _ _).alloc (Nat.le_refl _) (.cells #[.int .i64 0, .slice none 0 0, .int .i64 0] 28)) (Nat.le_refl _))
          replace HD := Lib.hid (HD.out.below ((Below.refl _ _).alloc (Nat.le_refl _) (.cells #[.int .i64 0, .slice none 0 0, .int .i64 0] 28)) (Nat.le_refl _))
          (try simp only [Act.put, List.getElem_toArray, List.getElem_cons_zero, List.getElem_cons_succ, List.setIfInBounds_toArray, List.set_cons_zero, List.set_cons_succ])
          have hxl := hX.lt
          refine wpAnyH_ready (rs := [5]) (by kernel_rfl) (by simp) ?_
          refine (AllReadyH.cons rfl (fun K hK => ?_) AllReadyH.nil)
          go_simp
          go_wp2_with (go_at_call 16; (with_reducible refine (CS.out _ _ _ _ _ HA.out HD.out).mono ?_); rintro e wf ⟨A5, c5, rfl, hf0, hbf⟩)
          refine hK.out _ _ ?_ (fun hHeld => ?_)
          · (try dsimp only); (suffices hBB : Below w2.heap.size w2 _ from ⟨(hBB.cell hpl).trans q0, (hBB.cell hpl).trans q1, (hBB.cell hpl).trans q2, (hBB.cell hql).trans u0, (hBB.cell hql).trans u1, (hBB.cell hql).trans u2, hBB⟩; first | with_reducible exact (Below.refl _ w2).drew | with_reducible exact heldE3 (by assumption) | (with_reducible refine stepB (heldE3 (by assumption)) ?_; with_reducible assumption) | with_reducible exact Below.alloc (heldE3 (by assumption)) (Below.size (heldE3 (by assumption))) _ | exact Below.setCell (p := ⟨_, 2, none⟩) (Below.setCell (p := ⟨_, 1, none⟩) (Below.setCell (p := ⟨_, 0, none⟩) (heldE3 (by assumption)) hge _) hge _) hge _ | exact Below.alloc (heldE3 (by assumption)) (Below.size (heldE3 (by assumption))) _)
          clear hK K
          have HF := Lib.hid hf0
          clear hf0 HA HD
          have hzf : w2.heap.size ≤ wf.heap.size := (heldE3 hHeld).size
          replace hX := hX.below hbf hX.lt
          (try simp only [Act.put, List.getElem_toArray, List.getElem_cons_zero, List.getElem_cons_succ, List.setIfInBounds_toArray, List.set_cons_zero, List.set_cons_succ])
          refine wpAnyH_take (i := 6) (v := .tuple #[dgV L' A5 N c5 r', .bool ok]) rfl (by kernel_rfl) (by kernel_rfl) (by kernel_rfl) (fun _ _ _ h => h) (Or.inl ⟨by rfl, ?_⟩) (by assumption) ?_
          · intro w' hSw; (try dsimp only at hSw); go_simp
          (try simp only [Act.put, List.getElem_toArray, List.getElem_cons_zero, List.getElem_cons_succ, List.setIfInBounds_toArray, List.set_cons_zero, List.set_cons_succ])
          refine wpAnyH_take (i := 7) (v := dgV L' A5 N c5 r') rfl (by kernel_rfl) (by kernel_rfl) (by kernel_rfl) (fun _ _ _ h => h) (Or.inl ⟨by rfl, ?_⟩) (by assumption) ?_
          · intro w' hSw; (try dsimp only at hSw); go_simp
          (try simp only [Act.put, List.getElem_toArray, List.getElem_cons_zero, List.getElem_cons_succ, List.setIfInBounds_toArray, List.set_cons_zero, List.set_cons_succ])
          refine wpAnyH_take (i := 8) (v := .bool ok) rfl (by kernel_rfl) (by kernel_rfl) (by kernel_rfl) (fun _ _ _ h => h) (Or.inl ⟨by rfl, ?_⟩) (by assumption) ?_
          · intro w' hSw; (try dsimp only at hSw); go_simp
          (try simp only [Act.put, List.getElem_toArray, List.getElem_cons_zero, List.getElem_cons_succ, List.setIfInBounds_toArray, List.set_cons_zero, List.set_cons_succ])
          have hc8 := True.intro
          obtain ⟨x0, x1, x2, F0, F1, F2⟩ := hX.three
          refine wpAnyH_ready (rs := [10]) (by kernel_rfl) (by simp) ?_
          refine (AllReadyH.cons rfl (fun K hK => ?_) AllReadyH.nil)
          go_simp
          (try go_wp2_with fail)
          refine hK.out _ _ ?_ (fun hHeld => ?_)
          · (try dsimp only); (suffices hBB : Below w2.heap.size w2 _ from ⟨(hBB.cell hpl).trans q0, (hBB.cell hpl).trans q1, (hBB.cell hpl).trans q2, (hBB.cell hql).trans u0, (hBB.cell hql).trans u1, (hBB.cell hql).trans u2, hBB⟩; first | with_reducible exact (Below.refl _ w2).drew | with_reducible exact heldE3 (by assumption) | (with_reducible refine stepB (heldE3 (by assumption)) ?_; with_reducible assumption) | with_reducible exact Below.alloc (heldE3 (by assumption)) (Below.size (heldE3 (by assumption))) _ | exact Below.setCell (p := ⟨_, 2, none⟩) (Below.setCell (p := ⟨_, 1, none⟩) (Below.setCell (p := ⟨_, 0, none⟩) (heldE3 (by assumption)) hge _) hge _) hge _ | exact Below.alloc (heldE3 (by assumption)) (Below.size (heldE3 (by assumption))) _)
          clear hK K
          (try simp only [Act.put, List.getElem_toArray, List.getElem_cons_zero, List.getElem_cons_succ, List.setIfInBounds_toArray, List.set_cons_zero, List.set_cons_succ])
          refine wpAnyH_ready (rs := [11]) (by kernel_rfl) (by simp) ?_
          refine (AllReadyH.cons rfl (fun K hK => ?_) AllReadyH.nil)
          go_simp
          (try go_wp2_with fail)
          refine hK.out _ _ ?_ (fun hHeld => ?_)
          · (try dsimp only); (suffices hBB : Below w2.heap.size w2 _ from ⟨(hBB.cell hpl).trans q0, (hBB.cell hpl).trans q1, (hBB.cell hpl).trans q2, (hBB.cell hql).trans u0, (hBB.cell hql).trans u1, (hBB.cell hql).trans u2, hBB⟩; first | with_reducible exact (Below.refl _ w2).drew | with_reducible exact heldE3 (by assumption) | (with_reducible refine stepB (heldE3 (by assumption)) ?_; with_reducible assumption) | with_reducible exact Below.alloc (heldE3 (by assumption)) (Below.size (heldE3 (by assumption))) _ | exact Below.setCell (p := ⟨_, 2, none⟩) (Below.setCell (p := ⟨_, 1, none⟩) (Below.setCell (p := ⟨_, 0, none⟩) (heldE3 (by assumption)) hge _) hge _) hge _ | exact Below.alloc (heldE3 (by assumption)) (Below.size (heldE3 (by assumption))) _)
          clear hK K
          (try simp only [Act.put, List.getElem_toArray, List.getElem_cons_zero, List.getElem_cons_succ, List.setIfInBounds_toArray, List.set_cons_zero, List.set_cons_succ])
          refine wpAnyH_done (by kernel_rfl) ?_ _
          go_wp2_with fail
          go_meet
          exact ⟨_, A5, c5, _, rfl, rfl, hge, hX.dgPut _ _ _, ((HF.out.keep (keeps_set (p := ⟨_, 0, none⟩) hxl _)).keep (keeps_set (p := ⟨_, 1, none⟩) hxl _)).keep (keeps_set (p := ⟨_, 2, none⟩) hxl _), heldE3 (by assumption)⟩
      · -- the box
        go_simp
        (try go_wp2_with fail)
        refine hK.out _ _ ?_ (fun hHeld => ?_)
        · (try dsimp only); (suffices hBB : Below w2.heap.size w2 _ from ⟨(hBB.cell hpl).trans q0, (hBB.cell hpl).trans q1, (hBB.cell hpl).trans q2, (hBB.cell hql).trans u0, (hBB.cell hql).trans u1, (hBB.cell hql).trans u2, hBB⟩; first | with_reducible exact (Below.refl _ w2).drew | with_reducible exact heldE3 (by assumption) | (with_reducible refine stepB (heldE3 (by assumption)) ?_; with_reducible assumption) | with_reducible exact Below.alloc (heldE3 (by assumption)) (Below.size (heldE3 (by assumption))) _ | exact Below.setCell (p := ⟨_, 2, none⟩) (Below.setCell (p := ⟨_, 1, none⟩) (Below.setCell (p := ⟨_, 0, none⟩) (heldE3 (by assumption)) hge _) hge _) hge _ | exact Below.alloc (heldE3 (by assumption)) (Below.size (heldE3 (by assumption))) _)
        clear hK K
        have hX := Box.new wa 28 #[.int .i64 0, .slice none 0 0, .int .i64 0]
        have hge := hza
        replace HA := Lib.hid (HA.out.below ((Below.refl _ _).alloc (Nat.le_refl _) (.cells #[.int .i64 0, .slice none 0 0, .int .i64 0] 28)) (Nat.le_refl _))
        (try simp only [Act.put, List.getElem_toArray, List.getElem_cons_zero, List.getElem_cons_succ, List.setIfInBounds_toArray, List.set_cons_zero, List.set_cons_succ])
        refine wpAnyH_ready (rs := [4]) (by kernel_rfl) (by simp) ?_
        refine (AllReadyH.cons rfl (fun K hK => ?_) AllReadyH.nil)
        go_simp
        go_wp2_with (go_at_call_of 11 (Value.agg #[.int .i64 M, .slice A1 m c1, .int .i64 s]); (with_reducible refine (CQ.out _ (HBB.out.trans ((heldE3 (by assumption)).mono HBB.out.size))).mono ?_); rintro e wb ⟨⟨gb, rfl, hb0⟩, hbb⟩)
        refine hK.out _ _ ?_ (fun hHeld => ?_)
        · (try dsimp only); (suffices hBB : Below w2.heap.size w2 _ from ⟨(hBB.cell hpl).trans q0, (hBB.cell hpl).trans q1, (hBB.cell hpl).trans q2, (hBB.cell hql).trans u0, (hBB.cell hql).trans u1, (hBB.cell hql).trans u2, hBB⟩; first | with_reducible exact (Below.refl _ w2).drew | with_reducible exact heldE3 (by assumption) | (with_reducible refine stepB (heldE3 (by assumption)) ?_; with_reducible assumption) | with_reducible exact Below.alloc (heldE3 (by assumption)) (Below.size (heldE3 (by assumption))) _ | exact Below.setCell (p := ⟨_, 2, none⟩) (Below.setCell (p := ⟨_, 1, none⟩) (Below.setCell (p := ⟨_, 0, none⟩) (heldE3 (by assumption)) hge _) hge _) hge _ | exact Below.alloc (heldE3 (by assumption)) (Below.size (heldE3 (by assumption))) _)
        clear hK K
        have HD := Lib.hid hb0
        clear hb0
        replace HA := Lib.hid (HA.out.below hbb (Nat.le_refl _))
        have hzb : w2.heap.size ≤ wb.heap.size := (heldE3 hHeld).size
        replace hX := hX.below hbb hX.lt
        (try simp only [Act.put, List.getElem_toArray, List.getElem_cons_zero, List.getElem_cons_succ, List.setIfInBounds_toArray, List.set_cons_zero, List.set_cons_succ])
        have hxl := hX.lt
        refine wpAnyH_ready (rs := [5]) (by kernel_rfl) (by simp) ?_
        refine (AllReadyH.cons rfl (fun K hK => ?_) AllReadyH.nil)
        go_simp
        go_wp2_with (go_at_call 16; (with_reducible refine (CS.out _ _ _ _ _ HA.out HD.out).mono ?_); rintro e wf ⟨A5, c5, rfl, hf0, hbf⟩)
        refine hK.out _ _ ?_ (fun hHeld => ?_)
        · (try dsimp only); (suffices hBB : Below w2.heap.size w2 _ from ⟨(hBB.cell hpl).trans q0, (hBB.cell hpl).trans q1, (hBB.cell hpl).trans q2, (hBB.cell hql).trans u0, (hBB.cell hql).trans u1, (hBB.cell hql).trans u2, hBB⟩; first | with_reducible exact (Below.refl _ w2).drew | with_reducible exact heldE3 (by assumption) | (with_reducible refine stepB (heldE3 (by assumption)) ?_; with_reducible assumption) | with_reducible exact Below.alloc (heldE3 (by assumption)) (Below.size (heldE3 (by assumption))) _ | exact Below.setCell (p := ⟨_, 2, none⟩) (Below.setCell (p := ⟨_, 1, none⟩) (Below.setCell (p := ⟨_, 0, none⟩) (heldE3 (by assumption)) hge _) hge _) hge _ | exact Below.alloc (heldE3 (by assumption)) (Below.size (heldE3 (by assumption))) _)
        clear hK K
        have HF := Lib.hid hf0
        clear hf0 HA HD
        have hzf : w2.heap.size ≤ wf.heap.size := (heldE3 hHeld).size
        replace hX := hX.below hbf hX.lt
        (try simp only [Act.put, List.getElem_toArray, List.getElem_cons_zero, List.getElem_cons_succ, List.setIfInBounds_toArray, List.set_cons_zero, List.set_cons_succ])
        refine wpAnyH_take (i := 6) (v := .tuple #[dgV L' A5 N c5 r', .bool ok]) rfl (by kernel_rfl) (by kernel_rfl) (by kernel_rfl) (fun _ _ _ h => h) (Or.inl ⟨by rfl, ?_⟩) (by assumption) ?_
        · intro w' hSw; (try dsimp only at hSw); go_simp
        (try simp only [Act.put, List.getElem_toArray, List.getElem_cons_zero, List.getElem_cons_succ, List.setIfInBounds_toArray, List.set_cons_zero, List.set_cons_succ])
        refine wpAnyH_take (i := 7) (v := dgV L' A5 N c5 r') rfl (by kernel_rfl) (by kernel_rfl) (by kernel_rfl) (fun _ _ _ h => h) (Or.inl ⟨by rfl, ?_⟩) (by assumption) ?_
        · intro w' hSw; (try dsimp only at hSw); go_simp
        (try simp only [Act.put, List.getElem_toArray, List.getElem_cons_zero, List.getElem_cons_succ, List.setIfInBounds_toArray, List.set_cons_zero, List.set_cons_succ])
        refine wpAnyH_take (i := 8) (v := .bool ok) rfl (by kernel_rfl) (by kernel_rfl) (by kernel_rfl) (fun _ _ _ h => h) (Or.inl ⟨by rfl, ?_⟩) (by assumption) ?_
        · intro w' hSw; (try dsimp only at hSw); go_simp
        (try simp only [Act.put, List.getElem_toArray, List.getElem_cons_zero, List.getElem_cons_succ, List.setIfInBounds_toArray, List.set_cons_zero, List.set_cons_succ])
        have hc8 := True.intro
        obtain ⟨x0, x1, x2, F0, F1, F2⟩ := hX.three
        refine wpAnyH_ready (rs := [10]) (by kernel_rfl) (by simp) ?_
        refine (AllReadyH.cons rfl (fun K hK => ?_) AllReadyH.nil)
        go_simp
        (try go_wp2_with fail)
        refine hK.out _ _ ?_ (fun hHeld => ?_)
        · (try dsimp only); (suffices hBB : Below w2.heap.size w2 _ from ⟨(hBB.cell hpl).trans q0, (hBB.cell hpl).trans q1, (hBB.cell hpl).trans q2, (hBB.cell hql).trans u0, (hBB.cell hql).trans u1, (hBB.cell hql).trans u2, hBB⟩; first | with_reducible exact (Below.refl _ w2).drew | with_reducible exact heldE3 (by assumption) | (with_reducible refine stepB (heldE3 (by assumption)) ?_; with_reducible assumption) | with_reducible exact Below.alloc (heldE3 (by assumption)) (Below.size (heldE3 (by assumption))) _ | exact Below.setCell (p := ⟨_, 2, none⟩) (Below.setCell (p := ⟨_, 1, none⟩) (Below.setCell (p := ⟨_, 0, none⟩) (heldE3 (by assumption)) hge _) hge _) hge _ | exact Below.alloc (heldE3 (by assumption)) (Below.size (heldE3 (by assumption))) _)
        clear hK K
        (try simp only [Act.put, List.getElem_toArray, List.getElem_cons_zero, List.getElem_cons_succ, List.setIfInBounds_toArray, List.set_cons_zero, List.set_cons_succ])
        refine wpAnyH_ready (rs := [11]) (by kernel_rfl) (by simp) ?_
        refine (AllReadyH.cons rfl (fun K hK => ?_) AllReadyH.nil)
        go_simp
        (try go_wp2_with fail)
        refine hK.out _ _ ?_ (fun hHeld => ?_)
        · (try dsimp only); (suffices hBB : Below w2.heap.size w2 _ from ⟨(hBB.cell hpl).trans q0, (hBB.cell hpl).trans q1, (hBB.cell hpl).trans q2, (hBB.cell hql).trans u0, (hBB.cell hql).trans u1, (hBB.cell hql).trans u2, hBB⟩; first | with_reducible exact (Below.refl _ w2).drew | with_reducible exact heldE3 (by assumption) | (with_reducible refine stepB (heldE3 (by assumption)) ?_; with_reducible assumption) | with_reducible exact Below.alloc (heldE3 (by assumption)) (Below.size (heldE3 (by assumption))) _ | exact Below.setCell (p := ⟨_, 2, none⟩) (Below.setCell (p := ⟨_, 1, none⟩) (Below.setCell (p := ⟨_, 0, none⟩) (heldE3 (by assumption)) hge _) hge _) hge _ | exact Below.alloc (heldE3 (by assumption)) (Below.size (heldE3 (by assumption))) _)
        clear hK K
        (try simp only [Act.put, List.getElem_toArray, List.getElem_cons_zero, List.getElem_cons_succ, List.setIfInBounds_toArray, List.set_cons_zero, List.set_cons_succ])
        refine wpAnyH_done (by kernel_rfl) ?_ _
        go_wp2_with fail
        go_meet
        exact ⟨_, A5, c5, _, rfl, rfl, hge, hX.dgPut _ _ _, ((HF.out.keep (keeps_set (p := ⟨_, 0, none⟩) hxl _)).keep (keeps_set (p := ⟨_, 1, none⟩) hxl _)).keep (keeps_set (p := ⟨_, 2, none⟩) hxl _), heldE3 (by assumption)⟩
    · -- the box
      go_simp
      (try go_wp2_with fail)
      refine hK.out _ _ ?_ (fun hHeld => ?_)
      · (try dsimp only); (suffices hBB : Below w2.heap.size w2 _ from ⟨(hBB.cell hpl).trans q0, (hBB.cell hpl).trans q1, (hBB.cell hpl).trans q2, (hBB.cell hql).trans u0, (hBB.cell hql).trans u1, (hBB.cell hql).trans u2, hBB⟩; first | with_reducible exact (Below.refl _ w2).drew | with_reducible exact heldE3 (by assumption) | (with_reducible refine stepB (heldE3 (by assumption)) ?_; with_reducible assumption) | with_reducible exact Below.alloc (heldE3 (by assumption)) (Below.size (heldE3 (by assumption))) _ | exact Below.setCell (p := ⟨_, 2, none⟩) (Below.setCell (p := ⟨_, 1, none⟩) (Below.setCell (p := ⟨_, 0, none⟩) (heldE3 (by assumption)) hge _) hge _) hge _ | exact Below.alloc (heldE3 (by assumption)) (Below.size (heldE3 (by assumption))) _)
      clear hK K
      have hX := Box.new w2.drew 28 #[.int .i64 0, .slice none 0 0, .int .i64 0]
      rw [show w2.drew.heap.size = w2.heap.size from rfl] at hX
      have hge : w2.heap.size ≤ w2.heap.size := Nat.le_refl _
      (try simp only [Act.put, List.getElem_toArray, List.getElem_cons_zero, List.getElem_cons_succ, List.setIfInBounds_toArray, List.set_cons_zero, List.set_cons_succ])
      refine wpAnyH_ready (rs := [2]) (by kernel_rfl) (by simp) ?_
      refine (AllReadyH.cons rfl (fun K hK => ?_) AllReadyH.nil)
      go_simp
      go_wp2_with (go_at_call_of 11 (Value.agg #[.int .i64 L, .slice A0 n c0, .int .i64 r]); (with_reducible refine (CP.out _ (HBB.out.trans ((heldE3 (by assumption)).mono HBB.out.size))).mono ?_); rintro e wa ⟨⟨ga, rfl, ha⟩, hba⟩)
      refine hK.out _ _ ?_ (fun hHeld => ?_)
      · (try dsimp only); (suffices hBB : Below w2.heap.size w2 _ from ⟨(hBB.cell hpl).trans q0, (hBB.cell hpl).trans q1, (hBB.cell hpl).trans q2, (hBB.cell hql).trans u0, (hBB.cell hql).trans u1, (hBB.cell hql).trans u2, hBB⟩; first | with_reducible exact (Below.refl _ w2).drew | with_reducible exact heldE3 (by assumption) | (with_reducible refine stepB (heldE3 (by assumption)) ?_; with_reducible assumption) | with_reducible exact Below.alloc (heldE3 (by assumption)) (Below.size (heldE3 (by assumption))) _ | exact Below.setCell (p := ⟨_, 2, none⟩) (Below.setCell (p := ⟨_, 1, none⟩) (Below.setCell (p := ⟨_, 0, none⟩) (heldE3 (by assumption)) hge _) hge _) hge _ | exact Below.alloc (heldE3 (by assumption)) (Below.size (heldE3 (by assumption))) _)
      clear hK K
      have HA := Lib.hid ha
      clear ha
      have hza : w2.heap.size ≤ wa.heap.size := (heldE3 hHeld).size
      replace hX := hX.below hba hX.lt
      (try simp only [Act.put, List.getElem_toArray, List.getElem_cons_zero, List.getElem_cons_succ, List.setIfInBounds_toArray, List.set_cons_zero, List.set_cons_succ])
      refine wpAnyH_ready (rs := [4]) (by kernel_rfl) (by simp) ?_
      refine (AllReadyH.cons rfl (fun K hK => ?_) AllReadyH.nil)
      go_simp
      go_wp2_with (go_at_call_of 11 (Value.agg #[.int .i64 M, .slice A1 m c1, .int .i64 s]); (with_reducible refine (CQ.out _ (HBB.out.trans ((heldE3 (by assumption)).mono HBB.out.size))).mono ?_); rintro e wb ⟨⟨gb, rfl, hb0⟩, hbb⟩)
      refine hK.out _ _ ?_ (fun hHeld => ?_)
      · (try dsimp only); (suffices hBB : Below w2.heap.size w2 _ from ⟨(hBB.cell hpl).trans q0, (hBB.cell hpl).trans q1, (hBB.cell hpl).trans q2, (hBB.cell hql).trans u0, (hBB.cell hql).trans u1, (hBB.cell hql).trans u2, hBB⟩; first | with_reducible exact (Below.refl _ w2).drew | with_reducible exact heldE3 (by assumption) | (with_reducible refine stepB (heldE3 (by assumption)) ?_; with_reducible assumption) | with_reducible exact Below.alloc (heldE3 (by assumption)) (Below.size (heldE3 (by assumption))) _ | exact Below.setCell (p := ⟨_, 2, none⟩) (Below.setCell (p := ⟨_, 1, none⟩) (Below.setCell (p := ⟨_, 0, none⟩) (heldE3 (by assumption)) hge _) hge _) hge _ | exact Below.alloc (heldE3 (by assumption)) (Below.size (heldE3 (by assumption))) _)
      clear hK K
      have HD := Lib.hid hb0
      clear hb0
      replace HA := Lib.hid (HA.out.below hbb (Nat.le_refl _))
      have hzb : w2.heap.size ≤ wb.heap.size := (heldE3 hHeld).size
      replace hX := hX.below hbb hX.lt
      (try simp only [Act.put, List.getElem_toArray, List.getElem_cons_zero, List.getElem_cons_succ, List.setIfInBounds_toArray, List.set_cons_zero, List.set_cons_succ])
      have hxl := hX.lt
      refine wpAnyH_ready (rs := [5]) (by kernel_rfl) (by simp) ?_
      refine (AllReadyH.cons rfl (fun K hK => ?_) AllReadyH.nil)
      go_simp
      go_wp2_with (go_at_call 16; (with_reducible refine (CS.out _ _ _ _ _ HA.out HD.out).mono ?_); rintro e wf ⟨A5, c5, rfl, hf0, hbf⟩)
      refine hK.out _ _ ?_ (fun hHeld => ?_)
      · (try dsimp only); (suffices hBB : Below w2.heap.size w2 _ from ⟨(hBB.cell hpl).trans q0, (hBB.cell hpl).trans q1, (hBB.cell hpl).trans q2, (hBB.cell hql).trans u0, (hBB.cell hql).trans u1, (hBB.cell hql).trans u2, hBB⟩; first | with_reducible exact (Below.refl _ w2).drew | with_reducible exact heldE3 (by assumption) | (with_reducible refine stepB (heldE3 (by assumption)) ?_; with_reducible assumption) | with_reducible exact Below.alloc (heldE3 (by assumption)) (Below.size (heldE3 (by assumption))) _ | exact Below.setCell (p := ⟨_, 2, none⟩) (Below.setCell (p := ⟨_, 1, none⟩) (Below.setCell (p := ⟨_, 0, none⟩) (heldE3 (by assumption)) hge _) hge _) hge _ | exact Below.alloc (heldE3 (by assumption)) (Below.size (heldE3 (by assumption))) _)
      clear hK K
      have HF := Lib.hid hf0
      clear hf0 HA HD
      have hzf : w2.heap.size ≤ wf.heap.size := (heldE3 hHeld).size
      replace hX := hX.below hbf hX.lt
      (try simp only [Act.put, List.getElem_toArray, List.getElem_cons_zero, List.getElem_cons_succ, List.setIfInBounds_toArray, List.set_cons_zero, List.set_cons_succ])
      refine wpAnyH_take (i := 6) (v := .tuple #[dgV L' A5 N c5 r', .bool ok]) rfl (by kernel_rfl) (by kernel_rfl) (by kernel_rfl) (fun _ _ _ h => h) (Or.inl ⟨by rfl, ?_⟩) (by assumption) ?_
      · intro w' hSw; (try dsimp only at hSw); go_simp
      (try simp only [Act.put, List.getElem_toArray, List.getElem_cons_zero, List.getElem_cons_succ, List.setIfInBounds_toArray, List.set_cons_zero, List.set_cons_succ])
      refine wpAnyH_take (i := 7) (v := dgV L' A5 N c5 r') rfl (by kernel_rfl) (by kernel_rfl) (by kernel_rfl) (fun _ _ _ h => h) (Or.inl ⟨by rfl, ?_⟩) (by assumption) ?_
      · intro w' hSw; (try dsimp only at hSw); go_simp
      (try simp only [Act.put, List.getElem_toArray, List.getElem_cons_zero, List.getElem_cons_succ, List.setIfInBounds_toArray, List.set_cons_zero, List.set_cons_succ])
      refine wpAnyH_take (i := 8) (v := .bool ok) rfl (by kernel_rfl) (by kernel_rfl) (by kernel_rfl) (fun _ _ _ h => h) (Or.inl ⟨by rfl, ?_⟩) (by assumption) ?_
      · intro w' hSw; (try dsimp only at hSw); go_simp
      (try simp only [Act.put, List.getElem_toArray, List.getElem_cons_zero, List.getElem_cons_succ, List.setIfInBounds_toArray, List.set_cons_zero, List.set_cons_succ])
      have hc8 := True.intro
      obtain ⟨x0, x1, x2, F0, F1, F2⟩ := hX.three
      refine wpAnyH_ready (rs := [10]) (by kernel_rfl) (by simp) ?_
      refine (AllReadyH.cons rfl (fun K hK => ?_) AllReadyH.nil)
      go_simp
      (try go_wp2_with fail)
      refine hK.out _ _ ?_ (fun hHeld => ?_)
      · (try dsimp only); (suffices hBB : Below w2.heap.size w2 _ from ⟨(hBB.cell hpl).trans q0, (hBB.cell hpl).trans q1, (hBB.cell hpl).trans q2, (hBB.cell hql).trans u0, (hBB.cell hql).trans u1, (hBB.cell hql).trans u2, hBB⟩; first | with_reducible exact (Below.refl _ w2).drew | with_reducible exact heldE3 (by assumption) | (with_reducible refine stepB (heldE3 (by assumption)) ?_; with_reducible assumption) | with_reducible exact Below.alloc (heldE3 (by assumption)) (Below.size (heldE3 (by assumption))) _ | exact Below.setCell (p := ⟨_, 2, none⟩) (Below.setCell (p := ⟨_, 1, none⟩) (Below.setCell (p := ⟨_, 0, none⟩) (heldE3 (by assumption)) hge _) hge _) hge _ | exact Below.alloc (heldE3 (by assumption)) (Below.size (heldE3 (by assumption))) _)
      clear hK K
      (try simp only [Act.put, List.getElem_toArray, List.getElem_cons_zero, List.getElem_cons_succ, List.setIfInBounds_toArray, List.set_cons_zero, List.set_cons_succ])
      refine wpAnyH_ready (rs := [11]) (by kernel_rfl) (by simp) ?_
      refine (AllReadyH.cons rfl (fun K hK => ?_) AllReadyH.nil)
      go_simp
      (try go_wp2_with fail)
      refine hK.out _ _ ?_ (fun hHeld => ?_)
      · (try dsimp only); (suffices hBB : Below w2.heap.size w2 _ from ⟨(hBB.cell hpl).trans q0, (hBB.cell hpl).trans q1, (hBB.cell hpl).trans q2, (hBB.cell hql).trans u0, (hBB.cell hql).trans u1, (hBB.cell hql).trans u2, hBB⟩; first | with_reducible exact (Below.refl _ w2).drew | with_reducible exact heldE3 (by assumption) | (with_reducible refine stepB (heldE3 (by assumption)) ?_; with_reducible assumption) | with_reducible exact Below.alloc (heldE3 (by assumption)) (Below.size (heldE3 (by assumption))) _ | exact Below.setCell (p := ⟨_, 2, none⟩) (Below.setCell (p := ⟨_, 1, none⟩) (Below.setCell (p := ⟨_, 0, none⟩) (heldE3 (by assumption)) hge _) hge _) hge _ | exact Below.alloc (heldE3 (by assumption)) (Below.size (heldE3 (by assumption))) _)
      clear hK K
      (try simp only [Act.put, List.getElem_toArray, List.getElem_cons_zero, List.getElem_cons_succ, List.setIfInBounds_toArray, List.set_cons_zero, List.set_cons_succ])
      refine wpAnyH_done (by kernel_rfl) ?_ _
      go_wp2_with fail
      go_meet
      exact ⟨_, A5, c5, _, rfl, rfl, hge, hX.dgPut _ _ _, ((HF.out.keep (keeps_set (p := ⟨_, 0, none⟩) hxl _)).keep (keeps_set (p := ⟨_, 1, none⟩) hxl _)).keep (keeps_set (p := ⟨_, 2, none⟩) hxl _), heldE3 (by assumption)⟩
  obtain ⟨G5, A5, c5, lo5, rfl, rfl, hge5, hX5, hw0, hb⟩ := hcut
  rename World => W0
  clear q0 q1 q2 u0 u1 u2 HBB
  replace hP := hP.below hb hP.lt
  replace hQ := hQ.below hb hQ.lt
  replace hB := hB.trans (hb.mono hB.size)
  have hL := hP.lt
  have hLq := hQ.lt
  have HW := Lib.hid hw0
  have hl5 := hX5.lt
  have hB0 := Below.refl W0.heap.size W0
  clear hw0 hb CS
  obtain ⟨q0, q1, q2⟩ := hP.trio
  obtain ⟨u0, u1, u2⟩ := hQ.trio
  obtain ⟨x0, x1, x2⟩ := hX5.trio
  go_upto_region 10 with (first
    | (go_at_call 11
       with_reducible refine (CP.out _ hB).mono ?_
       rintro e w3 ⟨⟨ga, rfl, hg⟩, hb⟩
       obtain ⟨loa, hlo, hg⟩ : ∃ l, l = W0.heap.size ∧ IntsAt l w3 (some ⟨ga, 0, none⟩) (n * 3) f := ⟨_, rfl, hg⟩
       have hsa : loa ≤ w3.heap.size := by rw [hlo]; exact hb.size
       have hza : W0.heap.size ≤ loa := by rw [hlo]; exact hB0.size
       clear hlo
       have HSa := Lib.hid (hg.sh (by omega) (Nat.le_refl w3.heap.size))
       clear q0 q1 q2 u0 u1 u2 x0 x1 x2
       have hXa := Box.new w3 28 #[.int .i64 L, .slice (some ⟨ga, 0, none⟩) n n, .int .i64 r]
       have hal := (Below.refl w3.heap.size w3).alloc (Nat.le_refl _) (.cells #[.int .i64 L, .slice (some ⟨ga, 0, none⟩) n n, .int .i64 r] 28)
       replace hP := hP.below hb hP.lt
       replace hQ := hQ.below hb hQ.lt
       replace hX5 := hX5.below hb hX5.lt
       replace hB := hB.trans (hb.mono hB.size)
       replace hB0 := hB0.trans (hb.mono hB0.size)
       clear hb
       have hb := hal
       replace hP := hP.below hb hP.lt
       replace hQ := hQ.below hb hQ.lt
       replace hX5 := hX5.below hb hX5.lt
       replace hB := hB.trans (hb.mono hB.size)
       replace hB0 := hB0.trans (hb.mono hB0.size)
       replace HSa := Lib.hid (HSa.out.marks (.of_below (lo := 0) (hi := 0) hb))
       have HIa := Lib.hid (hg.below hb (Nat.le_refl _))
       clear hb hal hg
       obtain ⟨q0, q1, q2⟩ := hP.trio
       obtain ⟨u0, u1, u2⟩ := hQ.trio
       obtain ⟨x0, x1, x2⟩ := hX5.trio
       obtain ⟨a0, a1, a2⟩ := hXa.trio
       skip))
  have hla : w3.heap.size < (w3.alloc (.cells #[.int .i64 L, .slice (some ⟨ga, 0, none⟩) n n, .int .i64 r] 28)).heap.size := hXa.lt
  generalize hw : (w3.alloc (.cells #[.int .i64 L, .slice (some ⟨ga, 0, none⟩) n n, .int .i64 r] 28)) = w4 at *
  clear hw
  go_upto_region 11 with (first
    | (go_at_call 11
       with_reducible refine (CQ.out _ hB).mono ?_
       rintro e w5 ⟨⟨gb, rfl, hg⟩, hb⟩
       obtain ⟨lob, hlo, hg⟩ : ∃ l, l = w4.heap.size ∧ IntsAt l w5 (some ⟨gb, 0, none⟩) (m * 3) g := ⟨_, rfl, hg⟩
       have hsb : lob ≤ w5.heap.size := by rw [hlo]; exact hb.size
       have hzb : W0.heap.size ≤ lob := by rw [hlo]; exact hB0.size
       have hyb : w3.heap.size < lob := by rw [hlo]; exact hla
       clear hlo
       have HSb := Lib.hid (hg.sh (by omega) (Nat.le_refl w5.heap.size))
       clear q0 q1 q2 u0 u1 u2 x0 x1 x2 a0 a1 a2
       have hXb := Box.new w5 28 #[.int .i64 M, .slice (some ⟨gb, 0, none⟩) m m, .int .i64 s]
       have hal := (Below.refl w5.heap.size w5).alloc (Nat.le_refl _) (.cells #[.int .i64 M, .slice (some ⟨gb, 0, none⟩) m m, .int .i64 s] 28)
       replace hP := hP.below hb hP.lt
       replace hQ := hQ.below hb hQ.lt
       replace hX5 := hX5.below hb hX5.lt
       replace hXa := hXa.below hb hXa.lt
       replace hB := hB.trans (hb.mono hB.size)
       replace hB0 := hB0.trans (hb.mono hB0.size)
       replace HIa := Lib.hid (HIa.out.below hb (Nat.le_refl _))
       replace HSa := Lib.hid (HSa.out.marks (.of_below (lo := 0) (hi := 0) hb))
       clear hb
       have hb := hal
       replace hP := hP.below hb hP.lt
       replace hQ := hQ.below hb hQ.lt
       replace hX5 := hX5.below hb hX5.lt
       replace hXa := hXa.below hb hXa.lt
       replace hB := hB.trans (hb.mono hB.size)
       replace hB0 := hB0.trans (hb.mono hB0.size)
       replace HIa := Lib.hid (HIa.out.below hb (Nat.le_refl _))
       replace HSa := Lib.hid (HSa.out.marks (.of_below (lo := 0) (hi := 0) hb))
       replace HSb := Lib.hid (HSb.out.marks (.of_below (lo := 0) (hi := 0) hb))
       have HIb := Lib.hid (hg.below hb (Nat.le_refl _))
       clear hb hal hg
       obtain ⟨q0, q1, q2⟩ := hP.trio
       obtain ⟨u0, u1, u2⟩ := hQ.trio
       obtain ⟨x0, x1, x2⟩ := hX5.trio
       obtain ⟨a0, a1, a2⟩ := hXa.trio
       obtain ⟨b0, b1, b2⟩ := hXb.trio
       skip))
  have hlb : w5.heap.size < (w5.alloc (.cells #[.int .i64 M, .slice (some ⟨gb, 0, none⟩) m m, .int .i64 s] 28)).heap.size := hXb.lt
  generalize hw : (w5.alloc (.cells #[.int .i64 M, .slice (some ⟨gb, 0, none⟩) m m, .int .i64 s] 28)) = w6 at *
  clear hw
  go_upto_region 12 with (first
    | (go_at_call 17
       with_reducible refine (CM.out _ _ _ _ _ HIa.out HIb.out).mono ?_
       rintro e w7 ⟨A7, c7, rfl, hg0, hb⟩
       obtain ⟨lo7, hlo, hg0⟩ : ∃ l, l = w6.heap.size ∧ IntsAt l w7 A7 (N * 3) F := ⟨_, rfl, hg0⟩
       have hs7 := hb.size
       rw [← hlo] at hs7 hlb
       clear hlo
       have HSC := Lib.hid (hg0.sh (by omega) (Nat.le_refl w7.heap.size))
       clear q0 q1 q2 u0 u1 u2 x0 x1 x2 a0 a1 a2 b0 b1 b2
       have hX7 := Box.new w7 28 #[.int .i64 L', .slice A7 N c7, .int .i64 r']
       have hal := (Below.refl w7.heap.size w7).alloc (Nat.le_refl _) (.cells #[.int .i64 L', .slice A7 N c7, .int .i64 r'] 28)
       replace hP := hP.below hb hP.lt
       replace hQ := hQ.below hb hQ.lt
       replace hX5 := hX5.below hb hX5.lt
       replace hXa := hXa.below hb hXa.lt
       replace hXb := hXb.below hb hXb.lt
       replace hB := hB.trans (hb.mono hB.size)
       replace hB0 := hB0.trans (hb.mono hB0.size)
       replace HIa := Lib.hid (HIa.out.below hb (Nat.le_refl _))
       replace HIb := Lib.hid (HIb.out.below hb (Nat.le_refl _))
       replace HSa := Lib.hid (HSa.out.marks (.of_below (lo := 0) (hi := 0) hb))
       replace HSb := Lib.hid (HSb.out.marks (.of_below (lo := 0) (hi := 0) hb))
       clear hb
       have hb := hal
       replace hP := hP.below hb hP.lt
       replace hQ := hQ.below hb hQ.lt
       replace hX5 := hX5.below hb hX5.lt
       replace hXa := hXa.below hb hXa.lt
       replace hXb := hXb.below hb hXb.lt
       replace hB := hB.trans (hb.mono hB.size)
       replace hB0 := hB0.trans (hb.mono hB0.size)
       replace HIa := Lib.hid (HIa.out.below hb (Nat.le_refl _))
       replace HIb := Lib.hid (HIb.out.below hb (Nat.le_refl _))
       replace HSa := Lib.hid (HSa.out.marks (.of_below (lo := 0) (hi := 0) hb))
       replace HSb := Lib.hid (HSb.out.marks (.of_below (lo := 0) (hi := 0) hb))
       replace HSC := Lib.hid (HSC.out.marks (.of_below (lo := 0) (hi := 0) hb))
       have HG := Lib.hid (hg0.below hb (Nat.le_refl _))
       clear hb hal hg0
       obtain ⟨q0, q1, q2⟩ := hP.trio
       obtain ⟨u0, u1, u2⟩ := hQ.trio
       obtain ⟨x0, x1, x2⟩ := hX5.trio
       obtain ⟨a0, a1, a2⟩ := hXa.trio
       obtain ⟨b0, b1, b2⟩ := hXb.trio
       obtain ⟨y0, y1, y2⟩ := hX7.trio
       skip))
  have hl7 : w7.heap.size < (w7.alloc (.cells #[.int .i64 L', .slice A7 N c7, .int .i64 r'] 28)).heap.size := hX7.lt
  generalize hw : (w7.alloc (.cells #[.int .i64 L', .slice A7 N c7, .int .i64 r'] 28)) = w8 at *
  clear hw
  go_upto_region 14 with (first
    | (go_at_call 13
       with_reducible refine (CI.out _ _ _ _ _ _ _ HG.out (HW.out.below hB0 (Nat.le_refl _))).mono ?_
       rintro e w9 ⟨rfl, hb⟩
       clear q0 q1 q2 u0 u1 u2 x0 x1 x2 a0 a1 a2 b0 b1 b2 y0 y1 y2
       replace hP := hP.below hb hP.lt
       replace hQ := hQ.below hb hQ.lt
       replace hX5 := hX5.below hb hX5.lt
       replace hXa := hXa.below hb hXa.lt
       replace hXb := hXb.below hb hXb.lt
       replace hX7 := hX7.below hb hX7.lt
       replace hB := hB.trans (hb.mono hB.size)
       replace hB0 := hB0.trans (hb.mono hB0.size)
       replace HIa := Lib.hid (HIa.out.below hb (Nat.le_refl _))
       replace HIb := Lib.hid (HIb.out.below hb (Nat.le_refl _))
       replace HG := Lib.hid (HG.out.below hb (Nat.le_refl _))
       replace HSa := Lib.hid (HSa.out.marks (.of_below (lo := 0) (hi := 0) hb))
       replace HSb := Lib.hid (HSb.out.marks (.of_below (lo := 0) (hi := 0) hb))
       replace HSC := Lib.hid (HSC.out.marks (.of_below (lo := 0) (hi := 0) hb))
       replace hl7 := Nat.lt_of_lt_of_le hl7 hb.size
       clear hb
       obtain ⟨q0, q1, q2⟩ := hP.trio
       obtain ⟨u0, u1, u2⟩ := hQ.trio
       obtain ⟨x0, x1, x2⟩ := hX5.trio
       obtain ⟨a0, a1, a2⟩ := hXa.trio
       obtain ⟨b0, b1, b2⟩ := hXb.trio
       obtain ⟨y0, y1, y2⟩ := hX7.trio
       skip))
  go_cut [62] (fun v wx => v = .bool false ∧ Below w9.heap.size w9 wx)
  case first =>
    have HB := Lib.hid hB
    have hxl := hXa.lt
    have hbl := hP.lt
    clear hB hB0 hP hQ hX5 hXa hXb hX7 HSa HSb HSC HG HW CI CO CH CD1 CD2 CM
    go_region_held3 (fun w' => w'.cell? ⟨w3.heap.size, 0, none⟩ = some (.int .i64 L) ∧ w'.cell? ⟨w3.heap.size, 1, none⟩ = some (.slice (some ⟨ga, 0, none⟩) n n) ∧ w'.cell? ⟨w3.heap.size, 2, none⟩ = some (.int .i64 r) ∧ w'.cell? ⟨w.heap.size, 0, none⟩ = some (.int .i64 L) ∧ w'.cell? ⟨w.heap.size, 1, none⟩ = some (.slice A0 n c0) ∧ w'.cell? ⟨w.heap.size, 2, none⟩ = some (.int .i64 r) ∧ Below w9.heap.size w9 w')
      ((suffices hBB : Below w9.heap.size w9 _ from ⟨(hBB.cell hxl).trans a0, (hBB.cell hxl).trans a1, (hBB.cell hxl).trans a2, (hBB.cell hbl).trans q0, (hBB.cell hbl).trans q1, (hBB.cell hbl).trans q2, hBB⟩; first | exact (Below.refl _ w9).drew | exact heldE3 (by assumption) | (refine stepB (heldE3 (by assumption)) ?_; assumption)))
      (first
        | (go_at_call 11; refine (CP.out _ (HB.out.trans ((heldE3 (by assumption)).mono HB.out.size))).mono ?_; rintro e w19 ⟨⟨m1, rfl, hm⟩, hb7⟩; have Hm := Lib.hid hm; clear hm)
        | (go_at_call 13; refine (CE.out _ _ _ _ _ (HIa.out.below (heldE3 (by assumption)) (Nat.le_refl _)) Hm.out).mono ?_; rintro e w10 ⟨rfl, hb8⟩))
    all_goals go_wp2_with fail
    all_goals go_meet
    all_goals exact ⟨rfl, heldE3 (by assumption)⟩
  obtain ⟨rfl, hb⟩ := hcut
  rename World => w11
  clear q0 q1 q2 u0 u1 u2 x0 x1 x2 a0 a1 a2 b0 b1 b2 y0 y1 y2
  clear HIa
  replace hP := hP.below hb hP.lt
  replace hQ := hQ.below hb hQ.lt
  replace hX5 := hX5.below hb hX5.lt
  replace hXa := hXa.below hb hXa.lt
  replace hXb := hXb.below hb hXb.lt
  replace hX7 := hX7.below hb hX7.lt
  replace hB := hB.trans (hb.mono hB.size)
  replace hB0 := hB0.trans (hb.mono hB0.size)
  replace HG := Lib.hid (HG.out.below hb (Nat.le_refl _))
  replace HIb := Lib.hid (HIb.out.below hb (Nat.le_refl _))
  replace HSa := Lib.hid (HSa.out.marks (.of_below (lo := 0) (hi := 0) hb))
  replace HSb := Lib.hid (HSb.out.marks (.of_below (lo := 0) (hi := 0) hb))
  replace HSC := Lib.hid (HSC.out.marks (.of_below (lo := 0) (hi := 0) hb))
  replace hl7 := Nat.lt_of_lt_of_le hl7 hb.size
  clear hb
  obtain ⟨q0, q1, q2⟩ := hP.trio
  obtain ⟨u0, u1, u2⟩ := hQ.trio
  obtain ⟨x0, x1, x2⟩ := hX5.trio
  obtain ⟨a0, a1, a2⟩ := hXa.trio
  obtain ⟨b0, b1, b2⟩ := hXb.trio
  obtain ⟨y0, y1, y2⟩ := hX7.trio
  go_upto_region 16 with fail
  go_cut [67] (fun v wx => v = .bool false ∧ Below w11.heap.size w11 wx)
  case first =>
    have HB := Lib.hid hB
    have hxl := hXb.lt
    have hbl := hQ.lt
    clear hB hB0 hP hQ hX5 hXa hXb hX7 HSa HSb HSC HG HW CI CO CH CD1 CD2 CM
    go_region_held3 (fun w' => w'.cell? ⟨w5.heap.size, 0, none⟩ = some (.int .i64 M) ∧ w'.cell? ⟨w5.heap.size, 1, none⟩ = some (.slice (some ⟨gb, 0, none⟩) m m) ∧ w'.cell? ⟨w5.heap.size, 2, none⟩ = some (.int .i64 s) ∧ w'.cell? ⟨w.heap.size + 1, 0, none⟩ = some (.int .i64 M) ∧ w'.cell? ⟨w.heap.size + 1, 1, none⟩ = some (.slice A1 m c1) ∧ w'.cell? ⟨w.heap.size + 1, 2, none⟩ = some (.int .i64 s) ∧ Below w11.heap.size w11 w')
      ((suffices hBB : Below w11.heap.size w11 _ from ⟨(hBB.cell hxl).trans b0, (hBB.cell hxl).trans b1, (hBB.cell hxl).trans b2, (hBB.cell hbl).trans u0, (hBB.cell hbl).trans u1, (hBB.cell hbl).trans u2, hBB⟩; first | exact (Below.refl _ w11).drew | exact heldE3 (by assumption) | (refine stepB (heldE3 (by assumption)) ?_; assumption)))
      (first
        | (go_at_call 11; refine (CQ.out _ (HB.out.trans ((heldE3 (by assumption)).mono HB.out.size))).mono ?_; rintro e w19 ⟨⟨m1, rfl, hm⟩, hb7⟩; have Hm := Lib.hid hm; clear hm)
        | (go_at_call 13; refine (CF.out _ _ _ _ _ (HIb.out.below (heldE3 (by assumption)) (Nat.le_refl _)) Hm.out).mono ?_; rintro e w10 ⟨rfl, hb8⟩))
    all_goals go_wp2_with fail
    all_goals go_meet
    all_goals exact ⟨rfl, heldE3 (by assumption)⟩
  obtain ⟨rfl, hb⟩ := hcut
  rename World => w12
  clear q0 q1 q2 u0 u1 u2 x0 x1 x2 a0 a1 a2 b0 b1 b2 y0 y1 y2
  clear HIb
  replace hP := hP.below hb hP.lt
  replace hQ := hQ.below hb hQ.lt
  replace hX5 := hX5.below hb hX5.lt
  replace hXa := hXa.below hb hXa.lt
  replace hXb := hXb.below hb hXb.lt
  replace hX7 := hX7.below hb hX7.lt
  replace hB := hB.trans (hb.mono hB.size)
  replace hB0 := hB0.trans (hb.mono hB0.size)
  replace HG := Lib.hid (HG.out.below hb (Nat.le_refl _))
  replace HSa := Lib.hid (HSa.out.marks (.of_below (lo := 0) (hi := 0) hb))
  replace HSb := Lib.hid (HSb.out.marks (.of_below (lo := 0) (hi := 0) hb))
  replace HSC := Lib.hid (HSC.out.marks (.of_below (lo := 0) (hi := 0) hb))
  replace hl7 := Nat.lt_of_lt_of_le hl7 hb.size
  clear hb
  obtain ⟨q0, q1, q2⟩ := hP.trio
  obtain ⟨u0, u1, u2⟩ := hQ.trio
  obtain ⟨x0, x1, x2⟩ := hX5.trio
  obtain ⟨a0, a1, a2⟩ := hXa.trio
  obtain ⟨b0, b1, b2⟩ := hXb.trio
  obtain ⟨y0, y1, y2⟩ := hX7.trio
  clear CE CF
  go_upto_region 31 with (first
    | (go_at_call 13
       with_reducible refine (CI.out _ _ _ _ _ _ _ HG.out (HW.out.below hB0 (Nat.le_refl _))).mono ?_
       rintro e w13 ⟨rfl, hb⟩
       clear q0 q1 q2 u0 u1 u2 x0 x1 x2 y0 y1 y2
       replace hP := hP.below hb hP.lt
       replace hQ := hQ.below hb hQ.lt
       replace hX5 := hX5.below hb hX5.lt
       replace hX7 := hX7.below hb hX7.lt
       replace hB := hB.trans (hb.mono hB.size)
       replace hB0 := hB0.trans (hb.mono hB0.size)
       replace HG := Lib.hid (HG.out.below hb (Nat.le_refl _))
       replace HSC := Lib.hid (HSC.out.marks (.of_below (lo := 0) (hi := 0) hb))
       replace hl7 := Nat.lt_of_lt_of_le hl7 hb.size
       clear hb
       obtain ⟨q0, q1, q2⟩ := hP.trio
       obtain ⟨u0, u1, u2⟩ := hQ.trio
       obtain ⟨x0, x1, x2⟩ := hX5.trio
       obtain ⟨y0, y1, y2⟩ := hX7.trio
       skip)
    | (go_at_call 14
       with_reducible refine (CD1.out _ _ _ _ _ HSa.out).mono ?_
       rintro e w14 ⟨rfl, _, hm⟩
       have hsB := hB0.size
       clear q0 q1 q2 u0 u1 u2 x0 x1 x2 y0 y1 y2 b0 b1 b2 a0 a1 a2
       clear hXa
       replace hP := hm.box hP (.inl (by omega))
       replace hQ := hm.box hQ (.inl (by omega))
       replace hX5 := hm.box hX5 (.inl (by omega))
       replace hX7 := hm.box hX7 (.inr (by omega))
       replace hXb := hm.box hXb (.inr (by omega))
       replace hB := hB.trans (hm.toBelow (by omega) (by omega))
       replace hB0 := hB0.trans (hm.toBelow (by omega) (by omega))
       replace HG := Lib.hid (HG.out.keep (hm.keeps.mono (by omega)))
       replace HSb := Lib.hid (HSb.out.marks hm)
       replace HSC := Lib.hid (HSC.out.marks hm)
       replace hl7 := Nat.lt_of_lt_of_le hl7 hm.size
       clear hm HSa
       obtain ⟨q0, q1, q2⟩ := hP.trio
       obtain ⟨u0, u1, u2⟩ := hQ.trio
       obtain ⟨x0, x1, x2⟩ := hX5.trio
       obtain ⟨y0, y1, y2⟩ := hX7.trio
       obtain ⟨b0, b1, b2⟩ := hXb.trio
       skip)
    | (go_at_call 14
       with_reducible refine (CD2.out _ _ _ _ _ HSb.out).mono ?_
       rintro e w15 ⟨rfl, _, hm⟩
       have hsB := hB0.size
       clear q0 q1 q2 u0 u1 u2 x0 x1 x2 y0 y1 y2 b0 b1 b2
       clear hXb
       replace hP := hm.box hP (.inl (by omega))
       replace hQ := hm.box hQ (.inl (by omega))
       replace hX5 := hm.box hX5 (.inl (by omega))
       replace hX7 := hm.box hX7 (.inr (by omega))
       replace hB := hB.trans (hm.toBelow (by omega) (by omega))
       replace hB0 := hB0.trans (hm.toBelow (by omega) (by omega))
       replace HG := Lib.hid (HG.out.keep (hm.keeps.mono (by omega)))
       replace HSC := Lib.hid (HSC.out.marks hm)
       replace hl7 := Nat.lt_of_lt_of_le hl7 hm.size
       clear hm HSb
       obtain ⟨q0, q1, q2⟩ := hP.trio
       obtain ⟨u0, u1, u2⟩ := hQ.trio
       obtain ⟨x0, x1, x2⟩ := hX5.trio
       obtain ⟨y0, y1, y2⟩ := hX7.trio
       skip)
    | (go_at_call 14
       with_reducible refine (CO.out _ _ _ _ _ HSC.out).mono ?_
       rintro e w16 ⟨rfl, hg8, hm⟩
       have hsB := hB0.size
       clear q0 q1 q2 u0 u1 u2 x0 x1 x2 y0 y1 y2
       clear HG
       have HG := Lib.hid hg8
       replace hP := hm.box hP (.inl (by omega))
       replace hQ := hm.box hQ (.inl (by omega))
       replace hX5 := hm.box hX5 (.inl (by omega))
       replace hX7 := hm.box hX7 (.inr (by omega))
       replace hB := hB.trans (hm.toBelow (by omega) (by omega))
       replace hB0 := hB0.trans (hm.toBelow (by omega) (by omega))
       replace hl7 := Nat.lt_of_lt_of_le hl7 hm.size
       clear hm HSC hg8
       obtain ⟨q0, q1, q2⟩ := hP.trio
       obtain ⟨u0, u1, u2⟩ := hQ.trio
       obtain ⟨x0, x1, x2⟩ := hX5.trio
       obtain ⟨y0, y1, y2⟩ := hX7.trio
       skip)
    | (go_at_call 15
       with_reducible refine (CH.out _ _ _ _ HG.out).mono ?_
       rintro e w17 ⟨rfl, hb⟩
       clear q0 q1 q2 u0 u1 u2 x0 x1 x2 y0 y1 y2
       replace hP := hP.below hb hP.lt
       replace hQ := hQ.below hb hQ.lt
       replace hX5 := hX5.below hb hX5.lt
       replace hX7 := hX7.below hb hX7.lt
       replace hB := hB.trans (hb.mono hB.size)
       replace hB0 := hB0.trans (hb.mono hB0.size)
       replace HG := Lib.hid (HG.out.below hb (Nat.le_refl _))
       replace hl7 := Nat.lt_of_lt_of_le hl7 hb.size
       clear hb
       obtain ⟨q0, q1, q2⟩ := hP.trio
       obtain ⟨u0, u1, u2⟩ := hQ.trio
       obtain ⟨x0, x1, x2⟩ := hX5.trio
       obtain ⟨y0, y1, y2⟩ := hX7.trio
       skip))
  have HBB := Lib.hid hB
  have hpl := hP.lt
  have hql := hQ.lt
  go_cut [17, 18] (fun v8 v9 wx => ∃ (G : Nat) (A5 : Option Addr) (c5 lo5 : Nat), v8 = .pointer (some ⟨G, 0, none⟩) ∧ v9 = .bool ok ∧ w17.heap.size ≤ G ∧ Box wx G 28 #[.int .i64 L', .slice A5 N c5, .int .i64 r'] ∧ IntsAt lo5 wx A5 (N * 3) F ∧ Below w17.heap.size w17 wx)
  case first =>
    clear hB hB0 hP hQ hX5 hX7 HG HW CI CO CH CD1 CD2 x0 x1 x2 y0 y1 y2
    refine wp_region_held_drew (S := (fun w' => w'.cell? ⟨w.heap.size, 0, none⟩ = some (.int .i64 L) ∧ w'.cell? ⟨w.heap.size, 1, none⟩ = some (.slice A0 n c0) ∧ w'.cell? ⟨w.heap.size, 2, none⟩ = some (.int .i64 r) ∧ w'.cell? ⟨w.heap.size + 1, 0, none⟩ = some (.int .i64 M) ∧ w'.cell? ⟨w.heap.size + 1, 1, none⟩ = some (.slice A1 m c1) ∧ w'.cell? ⟨w.heap.size + 1, 2, none⟩ = some (.int .i64 s) ∧ Below w17.heap.size w17 w')) (by kernel_rfl) ?_ (fun hHeld => ?_)
    · (try dsimp only); (suffices hBB : Below w17.heap.size w17 _ from ⟨(hBB.cell hpl).trans q0, (hBB.cell hpl).trans q1, (hBB.cell hpl).trans q2, (hBB.cell hql).trans u0, (hBB.cell hql).trans u1, (hBB.cell hql).trans u2, hBB⟩; first | with_reducible exact (Below.refl _ w17).drew | with_reducible exact heldE3 (by assumption) | (with_reducible refine stepB (heldE3 (by assumption)) ?_; with_reducible assumption) | with_reducible exact Below.alloc (heldE3 (by assumption)) (Below.size (heldE3 (by assumption))) _ | exact Below.setCell (p := ⟨_, 2, none⟩) (Below.setCell (p := ⟨_, 1, none⟩) (Below.setCell (p := ⟨_, 0, none⟩) (heldE3 (by assumption)) hge _) hge _) hge _ | exact Below.alloc (heldE3 (by assumption)) (Below.size (heldE3 (by assumption))) _)
    refine wpAnyH_take (i := 0) (v := .int .i64 op) rfl (by kernel_rfl) (by kernel_rfl) (by kernel_rfl) (fun _ _ _ h => h) (Or.inl ⟨by rfl, ?_⟩) (by assumption) ?_
    · intro w' hSw; (try dsimp only at hSw); go_simp
    (try simp only [Act.put, List.getElem_toArray, List.getElem_cons_zero, List.setIfInBounds_toArray, List.set_cons_zero, List.set_cons_succ])
    refine wpAnyH_take (i := 1) (v := .agg #[.int .i64 L, .slice A0 n c0, .int .i64 r]) rfl (by kernel_rfl) (by kernel_rfl) (by kernel_rfl) (fun _ _ _ h => h) (Or.inl ⟨by rfl, ?_⟩) (by assumption) ?_
    · intro w' hSw; (try dsimp only at hSw); go_simp
    (try simp only [Act.put, List.getElem_toArray, List.getElem_cons_zero, List.getElem_cons_succ, List.setIfInBounds_toArray, List.set_cons_zero, List.set_cons_succ])
    refine wpAnyH_take (i := 3) (v := .agg #[.int .i64 M, .slice A1 m c1, .int .i64 s]) rfl (by kernel_rfl) (by kernel_rfl) (by kernel_rfl) (fun _ _ _ h => h) (Or.inl ⟨by rfl, ?_⟩) (by assumption) ?_
    · intro w' hSw; (try dsimp only at hSw); go_simp
    (try simp only [Act.put, List.getElem_toArray, List.getElem_cons_zero, List.getElem_cons_succ, List.setIfInBounds_toArray, List.set_cons_zero, List.set_cons_succ])
    refine wpAnyH_ready (rs := [2, 9]) (by kernel_rfl) (by simp) ?_
    refine (AllReadyH.cons rfl (fun K hK => ?_) (AllReadyH.cons rfl (fun K hK => ?_) AllReadyH.nil))
    · -- the call
      go_simp
      go_wp2_with (go_at_call_of 11 (Value.agg #[.int .i64 L, .slice A0 n c0, .int .i64 r]); (with_reducible refine (CP.out _ (HBB.out.trans ((heldE3 (by assumption)).mono HBB.out.size))).mono ?_); rintro e wa2 ⟨⟨ga, rfl, ha⟩, hba⟩)
      refine hK.out _ _ ?_ (fun hHeld => ?_)
      · (try dsimp only); (suffices hBB : Below w17.heap.size w17 _ from ⟨(hBB.cell hpl).trans q0, (hBB.cell hpl).trans q1, (hBB.cell hpl).trans q2, (hBB.cell hql).trans u0, (hBB.cell hql).trans u1, (hBB.cell hql).trans u2, hBB⟩; first | with_reducible exact (Below.refl _ w17).drew | with_reducible exact heldE3 (by assumption) | (with_reducible refine stepB (heldE3 (by assumption)) ?_; with_reducible assumption) | with_reducible exact Below.alloc (heldE3 (by assumption)) (Below.size (heldE3 (by assumption))) _ | exact Below.setCell (p := ⟨_, 2, none⟩) (Below.setCell (p := ⟨_, 1, none⟩) (Below.setCell (p := ⟨_, 0, none⟩) (heldE3 (by assumption)) hge _) hge _) hge _ | exact Below.alloc (heldE3 (by assumption)) (Below.size (heldE3 (by assumption))) _)
      clear hK K
      have HA := Lib.hid ha
      clear ha
      have hza : w17.heap.size ≤ wa2.heap.size := (heldE3 hHeld).size
      (try simp only [Act.put, List.getElem_toArray, List.getElem_cons_zero, List.getElem_cons_succ, List.setIfInBounds_toArray, List.set_cons_zero, List.set_cons_succ])
      refine wpAnyH_ready (rs := [4, 9]) (by kernel_rfl) (by simp) ?_
      refine (AllReadyH.cons rfl (fun K hK => ?_) (AllReadyH.cons rfl (fun K hK => ?_) AllReadyH.nil))
      · -- the call
        go_simp
        go_wp2_with (go_at_call_of 11 (Value.agg #[.int .i64 M, .slice A1 m c1, .int .i64 s]); (with_reducible refine (CQ.out _ (HBB.out.trans ((heldE3 (by assumption)).mono HBB.out.size))).mono ?_); rintro e wb2 ⟨⟨gb, rfl, hb0⟩, hbb⟩)
        refine hK.out _ _ ?_ (fun hHeld => ?_)
        · (try dsimp only); (suffices hBB : Below w17.heap.size w17 _ from ⟨(hBB.cell hpl).trans q0, (hBB.cell hpl).trans q1, (hBB.cell hpl).trans q2, (hBB.cell hql).trans u0, (hBB.cell hql).trans u1, (hBB.cell hql).trans u2, hBB⟩; first | with_reducible exact (Below.refl _ w17).drew | with_reducible exact heldE3 (by assumption) | (with_reducible refine stepB (heldE3 (by assumption)) ?_; with_reducible assumption) | with_reducible exact Below.alloc (heldE3 (by assumption)) (Below.size (heldE3 (by assumption))) _ | exact Below.setCell (p := ⟨_, 2, none⟩) (Below.setCell (p := ⟨_, 1, none⟩) (Below.setCell (p := ⟨_, 0, none⟩) (heldE3 (by assumption)) hge _) hge _) hge _ | exact Below.alloc (heldE3 (by assumption)) (Below.size (heldE3 (by assumption))) _)
        clear hK K
        have HD := Lib.hid hb0
        clear hb0
        replace HA := Lib.hid (HA.out.below hbb (Nat.le_refl _))
        have hzb : w17.heap.size ≤ wb2.heap.size := (heldE3 hHeld).size
        (try simp only [Act.put, List.getElem_toArray, List.getElem_cons_zero, List.getElem_cons_succ, List.setIfInBounds_toArray, List.set_cons_zero, List.set_cons_succ])
        refine wpAnyH_ready (rs := [5, 9]) (by kernel_rfl) (by simp) ?_
        refine (AllReadyH.cons rfl (fun K hK => ?_) (AllReadyH.cons rfl (fun K hK => ?_) AllReadyH.nil))
        · -- the call
          go_simp
          go_wp2_with (go_at_call 17; (with_reducible refine (CM.out _ _ _ _ _ HA.out HD.out).mono ?_); rintro e wf2 ⟨A5, c5, rfl, hf0, hbf⟩)
          refine hK.out _ _ ?_ (fun hHeld => ?_)
          · (try dsimp only); (suffices hBB : Below w17.heap.size w17 _ from ⟨(hBB.cell hpl).trans q0, (hBB.cell hpl).trans q1, (hBB.cell hpl).trans q2, (hBB.cell hql).trans u0, (hBB.cell hql).trans u1, (hBB.cell hql).trans u2, hBB⟩; first | with_reducible exact (Below.refl _ w17).drew | with_reducible exact heldE3 (by assumption) | (with_reducible refine stepB (heldE3 (by assumption)) ?_; with_reducible assumption) | with_reducible exact Below.alloc (heldE3 (by assumption)) (Below.size (heldE3 (by assumption))) _ | exact Below.setCell (p := ⟨_, 2, none⟩) (Below.setCell (p := ⟨_, 1, none⟩) (Below.setCell (p := ⟨_, 0, none⟩) (heldE3 (by assumption)) hge _) hge _) hge _ | exact Below.alloc (heldE3 (by assumption)) (Below.size (heldE3 (by assumption))) _)
          clear hK K
          have HF := Lib.hid hf0
          clear hf0 HA HD
          have hzf : w17.heap.size ≤ wf2.heap.size := (heldE3 hHeld).size
          (try simp only [Act.put, List.getElem_toArray, List.getElem_cons_zero, List.getElem_cons_succ, List.setIfInBounds_toArray, List.set_cons_zero, List.set_cons_succ])
          refine wpAnyH_take (i := 6) (v := .tuple #[dgV L' A5 N c5 r', .bool ok]) rfl (by kernel_rfl) (by kernel_rfl) (by kernel_rfl) (fun _ _ _ h => h) (Or.inl ⟨by rfl, ?_⟩) (by assumption) ?_
          · intro w' hSw; (try dsimp only at hSw); go_simp
          (try simp only [Act.put, List.getElem_toArray, List.getElem_cons_zero, List.getElem_cons_succ, List.setIfInBounds_toArray, List.set_cons_zero, List.set_cons_succ])
          refine wpAnyH_take (i := 7) (v := dgV L' A5 N c5 r') rfl (by kernel_rfl) (by kernel_rfl) (by kernel_rfl) (fun _ _ _ h => h) (Or.inl ⟨by rfl, ?_⟩) (by assumption) ?_
          · intro w' hSw; (try dsimp only at hSw); go_simp
          (try simp only [Act.put, List.getElem_toArray, List.getElem_cons_zero, List.getElem_cons_succ, List.setIfInBounds_toArray, List.set_cons_zero, List.set_cons_succ])
          refine wpAnyH_take (i := 8) (v := .bool ok) rfl (by kernel_rfl) (by kernel_rfl) (by kernel_rfl) (fun _ _ _ h => h) (Or.inl ⟨by rfl, ?_⟩) (by assumption) ?_
          · intro w' hSw; (try dsimp only at hSw); go_simp
          (try simp only [Act.put, List.getElem_toArray, List.getElem_cons_zero, List.getElem_cons_succ, List.setIfInBounds_toArray, List.set_cons_zero, List.set_cons_succ])
          have hc8 := True.intro
          refine wpAnyH_ready (rs := [9]) (by kernel_rfl) (by simp) ?_
          refine (AllReadyH.cons rfl (fun K hK => ?_) AllReadyH.nil)
          go_simp
          (try go_wp2_with fail)
          refine hK.out _ _ ?_ (fun hHeld => ?_)
          · (try dsimp only); (suffices hBB : Below w17.heap.size w17 _ from ⟨(hBB.cell hpl).trans q0, (hBB.cell hpl).trans q1, (hBB.cell hpl).trans q2, (hBB.cell hql).trans u0, (hBB.cell hql).trans u1, (hBB.cell hql).trans u2, hBB⟩; first | with_reducible exact (Below.refl _ w17).drew | with_reducible exact heldE3 (by assumption) | (with_reducible refine stepB (heldE3 (by assumption)) ?_; with_reducible assumption) | with_reducible exact Below.alloc (heldE3 (by assumption)) (Below.size (heldE3 (by assumption))) _ | exact Below.setCell (p := ⟨_, 2, none⟩) (Below.setCell (p := ⟨_, 1, none⟩) (Below.setCell (p := ⟨_, 0, none⟩) (heldE3 (by assumption)) hge _) hge _) hge _ | exact Below.alloc (heldE3 (by assumption)) (Below.size (heldE3 (by assumption))) _)
          clear hK K
          have hX := Box.new wf2 28 #[.int .i64 0, .slice none 0 0, .int .i64 0]
          have hge := hzf
          (try simp only [Act.put, List.getElem_toArray, List.getElem_cons_zero, List.getElem_cons_succ, List.setIfInBounds_toArray, List.set_cons_zero, List.set_cons_succ])
          obtain ⟨x0, x1, x2, F0, F1, F2⟩ := hX.three
          refine wpAnyH_ready (rs := [10]) (by kernel_rfl) (by simp) ?_
          refine (AllReadyH.cons rfl (fun K hK => ?_) AllReadyH.nil)
          go_simp
          (try go_wp2_with fail)
          refine hK.out _ _ ?_ (fun hHeld => ?_)
          · (try dsimp only); (suffices hBB : Below w17.heap.size w17 _ from ⟨(hBB.cell hpl).trans q0, (hBB.cell hpl).trans q1, (hBB.cell hpl).trans q2, (hBB.cell hql).trans u0, (hBB.cell hql).trans u1, (hBB.cell hql).trans u2, hBB⟩; first | with_reducible exact (Below.refl _ w17).drew | with_reducible exact heldE3 (by assumption) | (with_reducible refine stepB (heldE3 (by assumption)) ?_; with_reducible assumption) | with_reducible exact Below.alloc (heldE3 (by assumption)) (Below.size (heldE3 (by assumption))) _ | exact Below.setCell (p := ⟨_, 2, none⟩) (Below.setCell (p := ⟨_, 1, none⟩) (Below.setCell (p := ⟨_, 0, none⟩) (heldE3 (by assumption)) hge _) hge _) hge _ | exact Below.alloc (heldE3 (by assumption)) (Below.size (heldE3 (by assumption))) _)
          clear hK K
          (try simp only [Act.put, List.getElem_toArray, List.getElem_cons_zero, List.getElem_cons_succ, List.setIfInBounds_toArray, List.set_cons_zero, List.set_cons_succ])
          refine wpAnyH_ready (rs := [11]) (by kernel_rfl) (by simp) ?_
          refine (AllReadyH.cons rfl (fun K hK => ?_) AllReadyH.nil)
          go_simp
          (try go_wp2_with fail)
          refine hK.out _ _ ?_ (fun hHeld => ?_)
          · (try dsimp only); (suffices hBB : Below w17.heap.size w17 _ from ⟨(hBB.cell hpl).trans q0, (hBB.cell hpl).trans q1, (hBB.cell hpl).trans q2, (hBB.cell hql).trans u0, (hBB.cell hql).trans u1, (hBB.cell hql).trans u2, hBB⟩; first | with_reducible exact (Below.refl _ w17).drew | with_reducible exact heldE3 (by assumption) | (with_reducible refine stepB (heldE3 (by assumption)) ?_; with_reducible assumption) | with_reducible exact Below.alloc (heldE3 (by assumption)) (Below.size (heldE3 (by assumption))) _ | exact Below.setCell (p := ⟨_, 2, none⟩) (Below.setCell (p := ⟨_, 1, none⟩) (Below.setCell (p := ⟨_, 0, none⟩) (heldE3 (by assumption)) hge _) hge _) hge _ | exact Below.alloc (heldE3 (by assumption)) (Below.size (heldE3 (by assumption))) _)
          clear hK K
          (try simp only [Act.put, List.getElem_toArray, List.getElem_cons_zero, List.getElem_cons_succ, List.setIfInBounds_toArray, List.set_cons_zero, List.set_cons_succ])
          refine wpAnyH_done (by kernel_rfl) ?_ _
          go_wp2_with fail
          go_meet
          exact ⟨_, A5, c5, _, rfl, rfl, hge, Box.new _ _ _, HF.out.below ((Below.refl _ wf2).alloc (Nat.le_refl _) _) (Nat.le_refl _), heldE3 (by assumption)⟩
        · -- the box
          go_simp
          (try go_wp2_with fail)
          refine hK.out _ _ ?_ (fun hHeld => ?_)
          · (try dsimp only); (suffices hBB : Below w17.heap.size w17 _ from ⟨(hBB.cell hpl).trans q0, (hBB.cell hpl).trans q1, (hBB.cell hpl).trans q2, (hBB.cell hql).trans u0, (hBB.cell hql).trans u1, (hBB.cell hql).trans u2, hBB⟩; first | with_reducible exact (Below.refl _ w17).drew | with_reducible exact heldE3 (by assumption) | (with_reducible refine stepB (heldE3 (by assumption)) ?_; with_reducible assumption) | with_reducible exact Below.alloc (heldE3 (by assumption)) (Below.size (heldE3 (by assumption))) _ | exact Below.setCell (p := ⟨_, 2, none⟩) (Below.setCell (p := ⟨_, 1, none⟩) (Below.setCell (p := ⟨_, 0, none⟩) (heldE3 (by assumption)) hge _) hge _) hge _ | exact Below.alloc (heldE3 (by assumption)) (Below.size (heldE3 (by assumption))) _)
          clear hK K
          have hX := Box.new wb2 28 #[.int .i64 0, .slice none 0 0, .int .i64 0]
          have hge := hzb
          replace HA := Lib.hid (HA.out.below ((Below.refl _ _).alloc (Nat.le_refl _) (.cells #[.int .i64 0, .slice none 0 0, .int .i64 0] 28)) (Nat.le_refl _))
          replace HD := Lib.hid (HD.out.below ((Below.refl _ _).alloc (Nat.le_refl _) (.cells #[.int .i64 0, .slice none 0 0, .int .i64 0] 28)) (Nat.le_refl _))
          (try simp only [Act.put, List.getElem_toArray, List.getElem_cons_zero, List.getElem_cons_succ, List.setIfInBounds_toArray, List.set_cons_zero, List.set_cons_succ])
          have hxl := hX.lt
          refine wpAnyH_ready (rs := [5]) (by kernel_rfl) (by simp) ?_
          refine (AllReadyH.cons rfl (fun K hK => ?_) AllReadyH.nil)
          go_simp
          go_wp2_with (go_at_call 17; (with_reducible refine (CM.out _ _ _ _ _ HA.out HD.out).mono ?_); rintro e wf2 ⟨A5, c5, rfl, hf0, hbf⟩)
          refine hK.out _ _ ?_ (fun hHeld => ?_)
          · (try dsimp only); (suffices hBB : Below w17.heap.size w17 _ from ⟨(hBB.cell hpl).trans q0, (hBB.cell hpl).trans q1, (hBB.cell hpl).trans q2, (hBB.cell hql).trans u0, (hBB.cell hql).trans u1, (hBB.cell hql).trans u2, hBB⟩; first | with_reducible exact (Below.refl _ w17).drew | with_reducible exact heldE3 (by assumption) | (with_reducible refine stepB (heldE3 (by assumption)) ?_; with_reducible assumption) | with_reducible exact Below.alloc (heldE3 (by assumption)) (Below.size (heldE3 (by assumption))) _ | exact Below.setCell (p := ⟨_, 2, none⟩) (Below.setCell (p := ⟨_, 1, none⟩) (Below.setCell (p := ⟨_, 0, none⟩) (heldE3 (by assumption)) hge _) hge _) hge _ | exact Below.alloc (heldE3 (by assumption)) (Below.size (heldE3 (by assumption))) _)
          clear hK K
          have HF := Lib.hid hf0
          clear hf0 HA HD
          have hzf : w17.heap.size ≤ wf2.heap.size := (heldE3 hHeld).size
          replace hX := hX.below hbf hX.lt
          (try simp only [Act.put, List.getElem_toArray, List.getElem_cons_zero, List.getElem_cons_succ, List.setIfInBounds_toArray, List.set_cons_zero, List.set_cons_succ])
          refine wpAnyH_take (i := 6) (v := .tuple #[dgV L' A5 N c5 r', .bool ok]) rfl (by kernel_rfl) (by kernel_rfl) (by kernel_rfl) (fun _ _ _ h => h) (Or.inl ⟨by rfl, ?_⟩) (by assumption) ?_
          · intro w' hSw; (try dsimp only at hSw); go_simp
          (try simp only [Act.put, List.getElem_toArray, List.getElem_cons_zero, List.getElem_cons_succ, List.setIfInBounds_toArray, List.set_cons_zero, List.set_cons_succ])
          refine wpAnyH_take (i := 7) (v := dgV L' A5 N c5 r') rfl (by kernel_rfl) (by kernel_rfl) (by kernel_rfl) (fun _ _ _ h => h) (Or.inl ⟨by rfl, ?_⟩) (by assumption) ?_
          · intro w' hSw; (try dsimp only at hSw); go_simp
          (try simp only [Act.put, List.getElem_toArray, List.getElem_cons_zero, List.getElem_cons_succ, List.setIfInBounds_toArray, List.set_cons_zero, List.set_cons_succ])
          refine wpAnyH_take (i := 8) (v := .bool ok) rfl (by kernel_rfl) (by kernel_rfl) (by kernel_rfl) (fun _ _ _ h => h) (Or.inl ⟨by rfl, ?_⟩) (by assumption) ?_
          · intro w' hSw; (try dsimp only at hSw); go_simp
          (try simp only [Act.put, List.getElem_toArray, List.getElem_cons_zero, List.getElem_cons_succ, List.setIfInBounds_toArray, List.set_cons_zero, List.set_cons_succ])
          have hc8 := True.intro
          obtain ⟨x0, x1, x2, F0, F1, F2⟩ := hX.three
          refine wpAnyH_ready (rs := [10]) (by kernel_rfl) (by simp) ?_
          refine (AllReadyH.cons rfl (fun K hK => ?_) AllReadyH.nil)
          go_simp
          (try go_wp2_with fail)
          refine hK.out _ _ ?_ (fun hHeld => ?_)
          · (try dsimp only); (suffices hBB : Below w17.heap.size w17 _ from ⟨(hBB.cell hpl).trans q0, (hBB.cell hpl).trans q1, (hBB.cell hpl).trans q2, (hBB.cell hql).trans u0, (hBB.cell hql).trans u1, (hBB.cell hql).trans u2, hBB⟩; first | with_reducible exact (Below.refl _ w17).drew | with_reducible exact heldE3 (by assumption) | (with_reducible refine stepB (heldE3 (by assumption)) ?_; with_reducible assumption) | with_reducible exact Below.alloc (heldE3 (by assumption)) (Below.size (heldE3 (by assumption))) _ | exact Below.setCell (p := ⟨_, 2, none⟩) (Below.setCell (p := ⟨_, 1, none⟩) (Below.setCell (p := ⟨_, 0, none⟩) (heldE3 (by assumption)) hge _) hge _) hge _ | exact Below.alloc (heldE3 (by assumption)) (Below.size (heldE3 (by assumption))) _)
          clear hK K
          (try simp only [Act.put, List.getElem_toArray, List.getElem_cons_zero, List.getElem_cons_succ, List.setIfInBounds_toArray, List.set_cons_zero, List.set_cons_succ])
          refine wpAnyH_ready (rs := [11]) (by kernel_rfl) (by simp) ?_
          refine (AllReadyH.cons rfl (fun K hK => ?_) AllReadyH.nil)
          go_simp
          (try go_wp2_with fail)
          refine hK.out _ _ ?_ (fun hHeld => ?_)
          · (try dsimp only); (suffices hBB : Below w17.heap.size w17 _ from ⟨(hBB.cell hpl).trans q0, (hBB.cell hpl).trans q1, (hBB.cell hpl).trans q2, (hBB.cell hql).trans u0, (hBB.cell hql).trans u1, (hBB.cell hql).trans u2, hBB⟩; first | with_reducible exact (Below.refl _ w17).drew | with_reducible exact heldE3 (by assumption) | (with_reducible refine stepB (heldE3 (by assumption)) ?_; with_reducible assumption) | with_reducible exact Below.alloc (heldE3 (by assumption)) (Below.size (heldE3 (by assumption))) _ | exact Below.setCell (p := ⟨_, 2, none⟩) (Below.setCell (p := ⟨_, 1, none⟩) (Below.setCell (p := ⟨_, 0, none⟩) (heldE3 (by assumption)) hge _) hge _) hge _ | exact Below.alloc (heldE3 (by assumption)) (Below.size (heldE3 (by assumption))) _)
          clear hK K
          (try simp only [Act.put, List.getElem_toArray, List.getElem_cons_zero, List.getElem_cons_succ, List.setIfInBounds_toArray, List.set_cons_zero, List.set_cons_succ])
          refine wpAnyH_done (by kernel_rfl) ?_ _
          go_wp2_with fail
          go_meet
          exact ⟨_, A5, c5, _, rfl, rfl, hge, hX.dgPut _ _ _, ((HF.out.keep (keeps_set (p := ⟨_, 0, none⟩) hxl _)).keep (keeps_set (p := ⟨_, 1, none⟩) hxl _)).keep (keeps_set (p := ⟨_, 2, none⟩) hxl _), heldE3 (by assumption)⟩
      · -- the box
        go_simp
        (try go_wp2_with fail)
        refine hK.out _ _ ?_ (fun hHeld => ?_)
        · (try dsimp only); (suffices hBB : Below w17.heap.size w17 _ from ⟨(hBB.cell hpl).trans q0, (hBB.cell hpl).trans q1, (hBB.cell hpl).trans q2, (hBB.cell hql).trans u0, (hBB.cell hql).trans u1, (hBB.cell hql).trans u2, hBB⟩; first | with_reducible exact (Below.refl _ w17).drew | with_reducible exact heldE3 (by assumption) | (with_reducible refine stepB (heldE3 (by assumption)) ?_; with_reducible assumption) | with_reducible exact Below.alloc (heldE3 (by assumption)) (Below.size (heldE3 (by assumption))) _ | exact Below.setCell (p := ⟨_, 2, none⟩) (Below.setCell (p := ⟨_, 1, none⟩) (Below.setCell (p := ⟨_, 0, none⟩) (heldE3 (by assumption)) hge _) hge _) hge _ | exact Below.alloc (heldE3 (by assumption)) (Below.size (heldE3 (by assumption))) _)
        clear hK K
        have hX := Box.new wa2 28 #[.int .i64 0, .slice none 0 0, .int .i64 0]
        have hge := hza
        replace HA := Lib.hid (HA.out.below ((Below.refl _ _).alloc (Nat.le_refl _) (.cells #[.int .i64 0, .slice none 0 0, .int .i64 0] 28)) (Nat.le_refl _))
        (try simp only [Act.put, List.getElem_toArray, List.getElem_cons_zero, List.getElem_cons_succ, List.setIfInBounds_toArray, List.set_cons_zero, List.set_cons_succ])
        refine wpAnyH_ready (rs := [4]) (by kernel_rfl) (by simp) ?_
        refine (AllReadyH.cons rfl (fun K hK => ?_) AllReadyH.nil)
        go_simp
        go_wp2_with (go_at_call_of 11 (Value.agg #[.int .i64 M, .slice A1 m c1, .int .i64 s]); (with_reducible refine (CQ.out _ (HBB.out.trans ((heldE3 (by assumption)).mono HBB.out.size))).mono ?_); rintro e wb2 ⟨⟨gb, rfl, hb0⟩, hbb⟩)
        refine hK.out _ _ ?_ (fun hHeld => ?_)
        · (try dsimp only); (suffices hBB : Below w17.heap.size w17 _ from ⟨(hBB.cell hpl).trans q0, (hBB.cell hpl).trans q1, (hBB.cell hpl).trans q2, (hBB.cell hql).trans u0, (hBB.cell hql).trans u1, (hBB.cell hql).trans u2, hBB⟩; first | with_reducible exact (Below.refl _ w17).drew | with_reducible exact heldE3 (by assumption) | (with_reducible refine stepB (heldE3 (by assumption)) ?_; with_reducible assumption) | with_reducible exact Below.alloc (heldE3 (by assumption)) (Below.size (heldE3 (by assumption))) _ | exact Below.setCell (p := ⟨_, 2, none⟩) (Below.setCell (p := ⟨_, 1, none⟩) (Below.setCell (p := ⟨_, 0, none⟩) (heldE3 (by assumption)) hge _) hge _) hge _ | exact Below.alloc (heldE3 (by assumption)) (Below.size (heldE3 (by assumption))) _)
        clear hK K
        have HD := Lib.hid hb0
        clear hb0
        replace HA := Lib.hid (HA.out.below hbb (Nat.le_refl _))
        have hzb : w17.heap.size ≤ wb2.heap.size := (heldE3 hHeld).size
        replace hX := hX.below hbb hX.lt
        (try simp only [Act.put, List.getElem_toArray, List.getElem_cons_zero, List.getElem_cons_succ, List.setIfInBounds_toArray, List.set_cons_zero, List.set_cons_succ])
        have hxl := hX.lt
        refine wpAnyH_ready (rs := [5]) (by kernel_rfl) (by simp) ?_
        refine (AllReadyH.cons rfl (fun K hK => ?_) AllReadyH.nil)
        go_simp
        go_wp2_with (go_at_call 17; (with_reducible refine (CM.out _ _ _ _ _ HA.out HD.out).mono ?_); rintro e wf2 ⟨A5, c5, rfl, hf0, hbf⟩)
        refine hK.out _ _ ?_ (fun hHeld => ?_)
        · (try dsimp only); (suffices hBB : Below w17.heap.size w17 _ from ⟨(hBB.cell hpl).trans q0, (hBB.cell hpl).trans q1, (hBB.cell hpl).trans q2, (hBB.cell hql).trans u0, (hBB.cell hql).trans u1, (hBB.cell hql).trans u2, hBB⟩; first | with_reducible exact (Below.refl _ w17).drew | with_reducible exact heldE3 (by assumption) | (with_reducible refine stepB (heldE3 (by assumption)) ?_; with_reducible assumption) | with_reducible exact Below.alloc (heldE3 (by assumption)) (Below.size (heldE3 (by assumption))) _ | exact Below.setCell (p := ⟨_, 2, none⟩) (Below.setCell (p := ⟨_, 1, none⟩) (Below.setCell (p := ⟨_, 0, none⟩) (heldE3 (by assumption)) hge _) hge _) hge _ | exact Below.alloc (heldE3 (by assumption)) (Below.size (heldE3 (by assumption))) _)
        clear hK K
        have HF := Lib.hid hf0
        clear hf0 HA HD
        have hzf : w17.heap.size ≤ wf2.heap.size := (heldE3 hHeld).size
        replace hX := hX.below hbf hX.lt
        (try simp only [Act.put, List.getElem_toArray, List.getElem_cons_zero, List.getElem_cons_succ, List.setIfInBounds_toArray, List.set_cons_zero, List.set_cons_succ])
        refine wpAnyH_take (i := 6) (v := .tuple #[dgV L' A5 N c5 r', .bool ok]) rfl (by kernel_rfl) (by kernel_rfl) (by kernel_rfl) (fun _ _ _ h => h) (Or.inl ⟨by rfl, ?_⟩) (by assumption) ?_
        · intro w' hSw; (try dsimp only at hSw); go_simp
        (try simp only [Act.put, List.getElem_toArray, List.getElem_cons_zero, List.getElem_cons_succ, List.setIfInBounds_toArray, List.set_cons_zero, List.set_cons_succ])
        refine wpAnyH_take (i := 7) (v := dgV L' A5 N c5 r') rfl (by kernel_rfl) (by kernel_rfl) (by kernel_rfl) (fun _ _ _ h => h) (Or.inl ⟨by rfl, ?_⟩) (by assumption) ?_
        · intro w' hSw; (try dsimp only at hSw); go_simp
        (try simp only [Act.put, List.getElem_toArray, List.getElem_cons_zero, List.getElem_cons_succ, List.setIfInBounds_toArray, List.set_cons_zero, List.set_cons_succ])
        refine wpAnyH_take (i := 8) (v := .bool ok) rfl (by kernel_rfl) (by kernel_rfl) (by kernel_rfl) (fun _ _ _ h => h) (Or.inl ⟨by rfl, ?_⟩) (by assumption) ?_
        · intro w' hSw; (try dsimp only at hSw); go_simp
        (try simp only [Act.put, List.getElem_toArray, List.getElem_cons_zero, List.getElem_cons_succ, List.setIfInBounds_toArray, List.set_cons_zero, List.set_cons_succ])
        have hc8 := True.intro
        obtain ⟨x0, x1, x2, F0, F1, F2⟩ := hX.three
        refine wpAnyH_ready (rs := [10]) (by kernel_rfl) (by simp) ?_
        refine (AllReadyH.cons rfl (fun K hK => ?_) AllReadyH.nil)
        go_simp
        (try go_wp2_with fail)
        refine hK.out _ _ ?_ (fun hHeld => ?_)
        · (try dsimp only); (suffices hBB : Below w17.heap.size w17 _ from ⟨(hBB.cell hpl).trans q0, (hBB.cell hpl).trans q1, (hBB.cell hpl).trans q2, (hBB.cell hql).trans u0, (hBB.cell hql).trans u1, (hBB.cell hql).trans u2, hBB⟩; first | with_reducible exact (Below.refl _ w17).drew | with_reducible exact heldE3 (by assumption) | (with_reducible refine stepB (heldE3 (by assumption)) ?_; with_reducible assumption) | with_reducible exact Below.alloc (heldE3 (by assumption)) (Below.size (heldE3 (by assumption))) _ | exact Below.setCell (p := ⟨_, 2, none⟩) (Below.setCell (p := ⟨_, 1, none⟩) (Below.setCell (p := ⟨_, 0, none⟩) (heldE3 (by assumption)) hge _) hge _) hge _ | exact Below.alloc (heldE3 (by assumption)) (Below.size (heldE3 (by assumption))) _)
        clear hK K
        (try simp only [Act.put, List.getElem_toArray, List.getElem_cons_zero, List.getElem_cons_succ, List.setIfInBounds_toArray, List.set_cons_zero, List.set_cons_succ])
        refine wpAnyH_ready (rs := [11]) (by kernel_rfl) (by simp) ?_
        refine (AllReadyH.cons rfl (fun K hK => ?_) AllReadyH.nil)
        go_simp
        (try go_wp2_with fail)
        refine hK.out _ _ ?_ (fun hHeld => ?_)
        · (try dsimp only); (suffices hBB : Below w17.heap.size w17 _ from ⟨(hBB.cell hpl).trans q0, (hBB.cell hpl).trans q1, (hBB.cell hpl).trans q2, (hBB.cell hql).trans u0, (hBB.cell hql).trans u1, (hBB.cell hql).trans u2, hBB⟩; first | with_reducible exact (Below.refl _ w17).drew | with_reducible exact heldE3 (by assumption) | (with_reducible refine stepB (heldE3 (by assumption)) ?_; with_reducible assumption) | with_reducible exact Below.alloc (heldE3 (by assumption)) (Below.size (heldE3 (by assumption))) _ | exact Below.setCell (p := ⟨_, 2, none⟩) (Below.setCell (p := ⟨_, 1, none⟩) (Below.setCell (p := ⟨_, 0, none⟩) (heldE3 (by assumption)) hge _) hge _) hge _ | exact Below.alloc (heldE3 (by assumption)) (Below.size (heldE3 (by assumption))) _)
        clear hK K
        (try simp only [Act.put, List.getElem_toArray, List.getElem_cons_zero, List.getElem_cons_succ, List.setIfInBounds_toArray, List.set_cons_zero, List.set_cons_succ])
        refine wpAnyH_done (by kernel_rfl) ?_ _
        go_wp2_with fail
        go_meet
        exact ⟨_, A5, c5, _, rfl, rfl, hge, hX.dgPut _ _ _, ((HF.out.keep (keeps_set (p := ⟨_, 0, none⟩) hxl _)).keep (keeps_set (p := ⟨_, 1, none⟩) hxl _)).keep (keeps_set (p := ⟨_, 2, none⟩) hxl _), heldE3 (by assumption)⟩
    · -- the box
      go_simp
      (try go_wp2_with fail)
      refine hK.out _ _ ?_ (fun hHeld => ?_)
      · (try dsimp only); (suffices hBB : Below w17.heap.size w17 _ from ⟨(hBB.cell hpl).trans q0, (hBB.cell hpl).trans q1, (hBB.cell hpl).trans q2, (hBB.cell hql).trans u0, (hBB.cell hql).trans u1, (hBB.cell hql).trans u2, hBB⟩; first | with_reducible exact (Below.refl _ w17).drew | with_reducible exact heldE3 (by assumption) | (with_reducible refine stepB (heldE3 (by assumption)) ?_; with_reducible assumption) | with_reducible exact Below.alloc (heldE3 (by assumption)) (Below.size (heldE3 (by assumption))) _ | exact Below.setCell (p := ⟨_, 2, none⟩) (Below.setCell (p := ⟨_, 1, none⟩) (Below.setCell (p := ⟨_, 0, none⟩) (heldE3 (by assumption)) hge _) hge _) hge _ | exact Below.alloc (heldE3 (by assumption)) (Below.size (heldE3 (by assumption))) _)
      clear hK K
      have hX := Box.new w17.drew 28 #[.int .i64 0, .slice none 0 0, .int .i64 0]
      rw [show w17.drew.heap.size = w17.heap.size from rfl] at hX
      have hge : w17.heap.size ≤ w17.heap.size := Nat.le_refl _
      (try simp only [Act.put, List.getElem_toArray, List.getElem_cons_zero, List.getElem_cons_succ, List.setIfInBounds_toArray, List.set_cons_zero, List.set_cons_succ])
      refine wpAnyH_ready (rs := [2]) (by kernel_rfl) (by simp) ?_
      refine (AllReadyH.cons rfl (fun K hK => ?_) AllReadyH.nil)
      go_simp
      go_wp2_with (go_at_call_of 11 (Value.agg #[.int .i64 L, .slice A0 n c0, .int .i64 r]); (with_reducible refine (CP.out _ (HBB.out.trans ((heldE3 (by assumption)).mono HBB.out.size))).mono ?_); rintro e wa2 ⟨⟨ga, rfl, ha⟩, hba⟩)
      refine hK.out _ _ ?_ (fun hHeld => ?_)
      · (try dsimp only); (suffices hBB : Below w17.heap.size w17 _ from ⟨(hBB.cell hpl).trans q0, (hBB.cell hpl).trans q1, (hBB.cell hpl).trans q2, (hBB.cell hql).trans u0, (hBB.cell hql).trans u1, (hBB.cell hql).trans u2, hBB⟩; first | with_reducible exact (Below.refl _ w17).drew | with_reducible exact heldE3 (by assumption) | (with_reducible refine stepB (heldE3 (by assumption)) ?_; with_reducible assumption) | with_reducible exact Below.alloc (heldE3 (by assumption)) (Below.size (heldE3 (by assumption))) _ | exact Below.setCell (p := ⟨_, 2, none⟩) (Below.setCell (p := ⟨_, 1, none⟩) (Below.setCell (p := ⟨_, 0, none⟩) (heldE3 (by assumption)) hge _) hge _) hge _ | exact Below.alloc (heldE3 (by assumption)) (Below.size (heldE3 (by assumption))) _)
      clear hK K
      have HA := Lib.hid ha
      clear ha
      have hza : w17.heap.size ≤ wa2.heap.size := (heldE3 hHeld).size
      replace hX := hX.below hba hX.lt
      (try simp only [Act.put, List.getElem_toArray, List.getElem_cons_zero, List.getElem_cons_succ, List.setIfInBounds_toArray, List.set_cons_zero, List.set_cons_succ])
      refine wpAnyH_ready (rs := [4]) (by kernel_rfl) (by simp) ?_
      refine (AllReadyH.cons rfl (fun K hK => ?_) AllReadyH.nil)
      go_simp
      go_wp2_with (go_at_call_of 11 (Value.agg #[.int .i64 M, .slice A1 m c1, .int .i64 s]); (with_reducible refine (CQ.out _ (HBB.out.trans ((heldE3 (by assumption)).mono HBB.out.size))).mono ?_); rintro e wb2 ⟨⟨gb, rfl, hb0⟩, hbb⟩)
      refine hK.out _ _ ?_ (fun hHeld => ?_)
      · (try dsimp only); (suffices hBB : Below w17.heap.size w17 _ from ⟨(hBB.cell hpl).trans q0, (hBB.cell hpl).trans q1, (hBB.cell hpl).trans q2, (hBB.cell hql).trans u0, (hBB.cell hql).trans u1, (hBB.cell hql).trans u2, hBB⟩; first | with_reducible exact (Below.refl _ w17).drew | with_reducible exact heldE3 (by assumption) | (with_reducible refine stepB (heldE3 (by assumption)) ?_; with_reducible assumption) | with_reducible exact Below.alloc (heldE3 (by assumption)) (Below.size (heldE3 (by assumption))) _ | exact Below.setCell (p := ⟨_, 2, none⟩) (Below.setCell (p := ⟨_, 1, none⟩) (Below.setCell (p := ⟨_, 0, none⟩) (heldE3 (by assumption)) hge _) hge _) hge _ | exact Below.alloc (heldE3 (by assumption)) (Below.size (heldE3 (by assumption))) _)
      clear hK K
      have HD := Lib.hid hb0
      clear hb0
      replace HA := Lib.hid (HA.out.below hbb (Nat.le_refl _))
      have hzb : w17.heap.size ≤ wb2.heap.size := (heldE3 hHeld).size
      replace hX := hX.below hbb hX.lt
      (try simp only [Act.put, List.getElem_toArray, List.getElem_cons_zero, List.getElem_cons_succ, List.setIfInBounds_toArray, List.set_cons_zero, List.set_cons_succ])
      have hxl := hX.lt
      refine wpAnyH_ready (rs := [5]) (by kernel_rfl) (by simp) ?_
      refine (AllReadyH.cons rfl (fun K hK => ?_) AllReadyH.nil)
      go_simp
      go_wp2_with (go_at_call 17; (with_reducible refine (CM.out _ _ _ _ _ HA.out HD.out).mono ?_); rintro e wf2 ⟨A5, c5, rfl, hf0, hbf⟩)
      refine hK.out _ _ ?_ (fun hHeld => ?_)
      · (try dsimp only); (suffices hBB : Below w17.heap.size w17 _ from ⟨(hBB.cell hpl).trans q0, (hBB.cell hpl).trans q1, (hBB.cell hpl).trans q2, (hBB.cell hql).trans u0, (hBB.cell hql).trans u1, (hBB.cell hql).trans u2, hBB⟩; first | with_reducible exact (Below.refl _ w17).drew | with_reducible exact heldE3 (by assumption) | (with_reducible refine stepB (heldE3 (by assumption)) ?_; with_reducible assumption) | with_reducible exact Below.alloc (heldE3 (by assumption)) (Below.size (heldE3 (by assumption))) _ | exact Below.setCell (p := ⟨_, 2, none⟩) (Below.setCell (p := ⟨_, 1, none⟩) (Below.setCell (p := ⟨_, 0, none⟩) (heldE3 (by assumption)) hge _) hge _) hge _ | exact Below.alloc (heldE3 (by assumption)) (Below.size (heldE3 (by assumption))) _)
      clear hK K
      have HF := Lib.hid hf0
      clear hf0 HA HD
      have hzf : w17.heap.size ≤ wf2.heap.size := (heldE3 hHeld).size
      replace hX := hX.below hbf hX.lt
      (try simp only [Act.put, List.getElem_toArray, List.getElem_cons_zero, List.getElem_cons_succ, List.setIfInBounds_toArray, List.set_cons_zero, List.set_cons_succ])
      refine wpAnyH_take (i := 6) (v := .tuple #[dgV L' A5 N c5 r', .bool ok]) rfl (by kernel_rfl) (by kernel_rfl) (by kernel_rfl) (fun _ _ _ h => h) (Or.inl ⟨by rfl, ?_⟩) (by assumption) ?_
      · intro w' hSw; (try dsimp only at hSw); go_simp
      (try simp only [Act.put, List.getElem_toArray, List.getElem_cons_zero, List.getElem_cons_succ, List.setIfInBounds_toArray, List.set_cons_zero, List.set_cons_succ])
      refine wpAnyH_take (i := 7) (v := dgV L' A5 N c5 r') rfl (by kernel_rfl) (by kernel_rfl) (by kernel_rfl) (fun _ _ _ h => h) (Or.inl ⟨by rfl, ?_⟩) (by assumption) ?_
      · intro w' hSw; (try dsimp only at hSw); go_simp
      (try simp only [Act.put, List.getElem_toArray, List.getElem_cons_zero, List.getElem_cons_succ, List.setIfInBounds_toArray, List.set_cons_zero, List.set_cons_succ])
      refine wpAnyH_take (i := 8) (v := .bool ok) rfl (by kernel_rfl) (by kernel_rfl) (by kernel_rfl) (fun _ _ _ h => h) (Or.inl ⟨by rfl, ?_⟩) (by assumption) ?_
      · intro w' hSw; (try dsimp only at hSw); go_simp
      (try simp only [Act.put, List.getElem_toArray, List.getElem_cons_zero, List.getElem_cons_succ, List.setIfInBounds_toArray, List.set_cons_zero, List.set_cons_succ])
      have hc8 := True.intro
      obtain ⟨x0, x1, x2, F0, F1, F2⟩ := hX.three
      refine wpAnyH_ready (rs := [10]) (by kernel_rfl) (by simp) ?_
      refine (AllReadyH.cons rfl (fun K hK => ?_) AllReadyH.nil)
      go_simp
      (try go_wp2_with fail)
      refine hK.out _ _ ?_ (fun hHeld => ?_)
      · (try dsimp only); (suffices hBB : Below w17.heap.size w17 _ from ⟨(hBB.cell hpl).trans q0, (hBB.cell hpl).trans q1, (hBB.cell hpl).trans q2, (hBB.cell hql).trans u0, (hBB.cell hql).trans u1, (hBB.cell hql).trans u2, hBB⟩; first | with_reducible exact (Below.refl _ w17).drew | with_reducible exact heldE3 (by assumption) | (with_reducible refine stepB (heldE3 (by assumption)) ?_; with_reducible assumption) | with_reducible exact Below.alloc (heldE3 (by assumption)) (Below.size (heldE3 (by assumption))) _ | exact Below.setCell (p := ⟨_, 2, none⟩) (Below.setCell (p := ⟨_, 1, none⟩) (Below.setCell (p := ⟨_, 0, none⟩) (heldE3 (by assumption)) hge _) hge _) hge _ | exact Below.alloc (heldE3 (by assumption)) (Below.size (heldE3 (by assumption))) _)
      clear hK K
      (try simp only [Act.put, List.getElem_toArray, List.getElem_cons_zero, List.getElem_cons_succ, List.setIfInBounds_toArray, List.set_cons_zero, List.set_cons_succ])
      refine wpAnyH_ready (rs := [11]) (by kernel_rfl) (by simp) ?_
      refine (AllReadyH.cons rfl (fun K hK => ?_) AllReadyH.nil)
      go_simp
      (try go_wp2_with fail)
      refine hK.out _ _ ?_ (fun hHeld => ?_)
      · (try dsimp only); (suffices hBB : Below w17.heap.size w17 _ from ⟨(hBB.cell hpl).trans q0, (hBB.cell hpl).trans q1, (hBB.cell hpl).trans q2, (hBB.cell hql).trans u0, (hBB.cell hql).trans u1, (hBB.cell hql).trans u2, hBB⟩; first | with_reducible exact (Below.refl _ w17).drew | with_reducible exact heldE3 (by assumption) | (with_reducible refine stepB (heldE3 (by assumption)) ?_; with_reducible assumption) | with_reducible exact Below.alloc (heldE3 (by assumption)) (Below.size (heldE3 (by assumption))) _ | exact Below.setCell (p := ⟨_, 2, none⟩) (Below.setCell (p := ⟨_, 1, none⟩) (Below.setCell (p := ⟨_, 0, none⟩) (heldE3 (by assumption)) hge _) hge _) hge _ | exact Below.alloc (heldE3 (by assumption)) (Below.size (heldE3 (by assumption))) _)
      clear hK K
      (try simp only [Act.put, List.getElem_toArray, List.getElem_cons_zero, List.getElem_cons_succ, List.setIfInBounds_toArray, List.set_cons_zero, List.set_cons_succ])
      refine wpAnyH_done (by kernel_rfl) ?_ _
      go_wp2_with fail
      go_meet
      exact ⟨_, A5, c5, _, rfl, rfl, hge, hX.dgPut _ _ _, ((HF.out.keep (keeps_set (p := ⟨_, 0, none⟩) hxl _)).keep (keeps_set (p := ⟨_, 1, none⟩) hxl _)).keep (keeps_set (p := ⟨_, 2, none⟩) hxl _), heldE3 (by assumption)⟩
  obtain ⟨G11, A11, c11, lo11, rfl, rfl, _, hX11, hh0, hb⟩ := hcut
  rename World => w18
  clear q0 q1 q2 u0 u1 u2 x0 x1 x2 y0 y1 y2 HBB CM CP CQ hP hQ
  replace hX5 := hX5.below hb hX5.lt
  replace hX7 := hX7.below hb hX7.lt
  replace hB := hB.trans (hb.mono hB.size)
  replace hB0 := hB0.trans (hb.mono hB0.size)
  replace HG := Lib.hid (HG.out.below hb (Nat.le_refl _))
  clear hb
  have HH := Lib.hid hh0
  clear hh0
  obtain ⟨x0, x1, x2⟩ := hX5.trio
  obtain ⟨y0, y1, y2⟩ := hX7.trio
  obtain ⟨z0, z1, z2⟩ := hX11.trio
  go_wp2_with (first
    | (go_at_call 13
       with_reducible refine (CI.out _ _ _ _ _ _ _ HH.out (HW.out.below hB0 (Nat.le_refl _))).mono ?_
       rintro e w12 ⟨rfl, hb⟩
       clear x0 x1 x2 y0 y1 y2 z0 z1 z2
       replace hX7 := hX7.below hb hX7.lt
       replace hB := hB.trans (hb.mono hB.size)
       replace HG := Lib.hid (HG.out.below hb (Nat.le_refl _))
       clear hb hX5 hX11 hB0 HH
       obtain ⟨y0, y1, y2⟩ := hX7.trio
       skip)
    | (go_at_call 15
       with_reducible refine (CH.out _ _ _ _ HG.out).mono ?_
       rintro e w9 ⟨rfl, hb⟩
       replace hB := hB.trans (hb.mono hB.size)
       clear hb))
  go_ret
  exact ⟨rfl, hB⟩

end Go.Proofs.Ytamjfcckgeakfaa
