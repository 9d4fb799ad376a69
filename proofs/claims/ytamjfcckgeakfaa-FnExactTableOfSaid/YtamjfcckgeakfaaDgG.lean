/-
  Decision diagrams, the model: whether a diagram is valid. (Written by gen_dgg.py.)
-/
import Derived.Test.YtamjfcckgeakfaaDgF
namespace Go.Proofs.Ytamjfcckgeakfaa
open Go.RowKit Num

set_option maxRecDepth 100000 in
set_option maxHeartbeats 6400000 in
theorem specVd_any (lo : Nat) (L ro : Int) (n c : Nat) (A0 : Option Addr) (f : Nat → Int) (w : World) (hn : n ≤ 1048576) (h0 : IntsAt lo w A0 (n * 3) f) :
    Calls Try.prog 39 #[dgV L A0 n c ro] w (Yd (VdS L ro n f) w) := by
  have hP := Box.new w 28 #[.int .i64 L, .slice A0 n c, .int .i64 ro]
  have hB := (Below.refl w.heap.size w).alloc (Nat.le_refl _) (.cells #[.int .i64 L, .slice A0 n c, .int .i64 ro] 28)
  obtain ⟨q0, q1, q2⟩ := hP.trio
  have H0 := Lib.hid h0; clear h0
  have hPl := hP.lt
  have HB := Lib.hid hB
  by_cases hsh : (0 ≤ L ∧ L ≤ 10) ∧ n ≤ 1024 ∧ (0 ≤ ro ∧ ro < n + 2) ∧ ShpI L n f
  case neg =>
    have CS : Hid (∀ W, Below w.heap.size w W → _) := Lib.hid fun W hW => (specShape_any lo L ro n c A0 f W hn (H0.out.below hW (Nat.le_refl _))).mono fun _ _ h => Yd.isnt hsh h
    have HN := Lib.hid hsh
    clear hsh hP hB
    go_enter Try.func39, Try.ntmps39
    go_upto_region 1 with fail
    generalize hW1 : (w.alloc (.cells #[.int .i64 L, .slice A0 n c, .int .i64 ro] 28)) = W1 at q0 q1 q2 hPl HB ⊢
    clear hW1
    refine wp_region_held_drew (S := (fun w' => w'.cell? ⟨w.heap.size, 0, none⟩ = some (.int .i64 L) ∧ w'.cell? ⟨w.heap.size, 1, none⟩ = some (.slice A0 n c) ∧ w'.cell? ⟨w.heap.size, 2, none⟩ = some (.int .i64 ro) ∧ Below W1.heap.size W1 w')) (by kernel_rfl) ?_ (fun hHeld => ?_)
    · (try dsimp only); (suffices hBB : Below W1.heap.size W1 _ from ⟨(hBB.cell hPl).trans q0, (hBB.cell hPl).trans q1, (hBB.cell hPl).trans q2, hBB⟩; first | exact Below.drew (Below.refl _ _) | exact (Below.refl _ W1).drew | exact held3q (by assumption) | (refine stepB (held3q (by assumption)) ?_; assumption))
    refine wpAnyH_take (i := 0) (v := .agg #[.int .i64 L, .slice A0 n c, .int .i64 ro]) rfl (by kernel_rfl) (by kernel_rfl) (by kernel_rfl) (fun _ _ _ h => h) (Or.inl ⟨by rfl, ?_⟩) (by assumption) ?_
    · intro w' hSw; (try dsimp only at hSw); go_simp
    (try simp only [Act.put, List.getElem_toArray, List.getElem_cons_zero, List.setIfInBounds_toArray, List.set_cons_zero, List.set_cons_succ])
    refine wpAnyH_ready (rs := [1]) (by kernel_rfl) (by simp) ?_
    refine AllReadyH.cons rfl (fun K hK => ?_) AllReadyH.nil
    go_simp
    go_wp2_with (go_at_call 65; refine (CS.out _ (HB.out.trans (Below.mono (held3q (by assumption)) HB.out.size))).mono ?_; rintro e w3 ⟨rfl, hb3⟩)
    refine hK.out _ _ ?_ (fun hHeld => ?_)
    · (try dsimp only); (suffices hBB : Below W1.heap.size W1 _ from ⟨(hBB.cell hPl).trans q0, (hBB.cell hPl).trans q1, (hBB.cell hPl).trans q2, hBB⟩; first | exact Below.drew (Below.refl _ _) | exact (Below.refl _ W1).drew | exact held3q (by assumption) | (refine stepB (held3q (by assumption)) ?_; assumption))
    clear hK K
    (try simp only [Act.put, List.getElem_toArray, List.getElem_cons_zero, List.getElem_cons_succ, List.setIfInBounds_toArray, List.set_cons_zero, List.set_cons_succ])
    refine wpAnyH_take (i := 2) (v := .bool false) rfl (by kernel_rfl) (by kernel_rfl) (by kernel_rfl) (fun _ _ _ h => h) (Or.inl ⟨by rfl, ?_⟩) (by assumption) ?_
    · intro w' hSw; (try dsimp only at hSw); go_simp
    (try simp only [Act.put, List.getElem_toArray, List.getElem_cons_zero, List.getElem_cons_succ, List.setIfInBounds_toArray, List.set_cons_zero, List.set_cons_succ])
    refine wpAnyH_take (i := 3) (v := undef) rfl (by kernel_rfl) (by kernel_rfl) (by kernel_rfl) (fun _ _ _ h => h) (Or.inr ⟨by simp [Region.wanted, yielded], rfl⟩) (by assumption) ?_
    (try simp only [Act.put, List.getElem_toArray, List.getElem_cons_zero, List.getElem_cons_succ, List.setIfInBounds_toArray, List.set_cons_zero, List.set_cons_succ])
    refine wpAnyH_take (i := 4) (v := undef) rfl (by kernel_rfl) (by kernel_rfl) (by kernel_rfl) (fun _ _ _ h => h) (Or.inr ⟨by simp [Region.wanted, yielded], rfl⟩) (by assumption) ?_
    (try simp only [Act.put, List.getElem_toArray, List.getElem_cons_zero, List.getElem_cons_succ, List.setIfInBounds_toArray, List.set_cons_zero, List.set_cons_succ])
    refine wpAnyH_take (i := 5) (v := undef) rfl (by kernel_rfl) (by kernel_rfl) (by kernel_rfl) (fun _ _ _ h => h) (Or.inr ⟨by simp [Region.wanted, yielded], rfl⟩) (by assumption) ?_
    (try simp only [Act.put, List.getElem_toArray, List.getElem_cons_zero, List.getElem_cons_succ, List.setIfInBounds_toArray, List.set_cons_zero, List.set_cons_succ])
    refine wpAnyH_take (i := 6) (v := undef) rfl (by kernel_rfl) (by kernel_rfl) (by kernel_rfl) (fun _ _ _ h => h) (Or.inr ⟨by simp [Region.wanted, yielded], rfl⟩) (by assumption) ?_
    (try simp only [Act.put, List.getElem_toArray, List.getElem_cons_zero, List.getElem_cons_succ, List.setIfInBounds_toArray, List.set_cons_zero, List.set_cons_succ])
    refine wpAnyH_take (i := 7) (v := undef) rfl (by kernel_rfl) (by kernel_rfl) (by kernel_rfl) (fun _ _ _ h => h) (Or.inr ⟨by simp [Region.wanted, yielded], rfl⟩) (by assumption) ?_
    (try simp only [Act.put, List.getElem_toArray, List.getElem_cons_zero, List.getElem_cons_succ, List.setIfInBounds_toArray, List.set_cons_zero, List.set_cons_succ])
    refine wpAnyH_take (i := 8) (v := undef) rfl (by kernel_rfl) (by kernel_rfl) (by kernel_rfl) (fun _ _ _ h => h) (Or.inr ⟨by simp [Region.wanted, yielded], rfl⟩) (by assumption) ?_
    (try simp only [Act.put, List.getElem_toArray, List.getElem_cons_zero, List.getElem_cons_succ, List.setIfInBounds_toArray, List.set_cons_zero, List.set_cons_succ])
    refine wpAnyH_take (i := 9) (v := undef) rfl (by kernel_rfl) (by kernel_rfl) (by kernel_rfl) (fun _ _ _ h => h) (Or.inr ⟨by simp [Region.wanted, yielded], rfl⟩) (by assumption) ?_
    (try simp only [Act.put, List.getElem_toArray, List.getElem_cons_zero, List.getElem_cons_succ, List.setIfInBounds_toArray, List.set_cons_zero, List.set_cons_succ])
    refine wpAnyH_take (i := 10) (v := .bool false) rfl (by kernel_rfl) (by kernel_rfl) (by kernel_rfl) (fun _ _ _ h => h) (Or.inl ⟨by rfl, ?_⟩) (by assumption) ?_
    · intro w' hSw; (try dsimp only at hSw); go_simp
    (try simp only [Act.put, List.getElem_toArray, List.getElem_cons_zero, List.getElem_cons_succ, List.setIfInBounds_toArray, List.set_cons_zero, List.set_cons_succ])
    refine wpAnyH_take (i := 11) (v := .bool false) rfl (by kernel_rfl) (by kernel_rfl) (by kernel_rfl) (fun _ _ _ h => h) (Or.inl ⟨by rfl, ?_⟩) (by assumption) ?_
    · intro w' hSw; (try dsimp only at hSw); go_simp
    (try simp only [Act.put, List.getElem_toArray, List.getElem_cons_zero, List.getElem_cons_succ, List.setIfInBounds_toArray, List.set_cons_zero, List.set_cons_succ])
    refine wpAnyH_done (by kernel_rfl) ?_ _
    go_wp2_with fail
    go_ret
    exact Yd.no (fun h => HN.out h.1) (HB.out.trans (Below.mono (held3q (by assumption)) HB.out.size))
  case pos =>
    obtain ⟨hL, h4, hro, hs⟩ := id hsh
    have CS : Hid (∀ W, Below w.heap.size w W → _) := Lib.hid fun W hW => (specShape_any lo L ro n c A0 f W hn (H0.out.below hW (Nat.le_refl _))).mono fun _ _ h => Yd.is hsh h
    have er : ((ro.toNat : Nat) : Int) = ro := by omega
    have CT : Hid (∀ W, Below w.heap.size w W → _) := Lib.hid fun W hW => specTable_any lo L ro.toNat n c A0 f W hs hL.1 hL.2 hn (by omega) (H0.out.below hW (Nat.le_refl _))
    have CO : Hid (∀ W, _) := Lib.hid fun W => specOf_any (tbl L ro n f) L W hL.1 hL.2
    have hlen := bld_len (tbl L ro n f) L.toNat L.toNat 0 []
    have hpw : 2 ^ L.toNat ≤ 1024 := Nat.le_trans (Nat.pow_le_pow_right (by omega) (show L.toNat ≤ 10 by omega)) (by decide)
    have CE : Hid (∀ (l2 : Nat) (A2 : Option Addr) (c2 : Nat) (W : World), Below w.heap.size w W → IntsAt l2 W A2 ((Dg.bld (tbl L ro n f) L.toNat L.toNat 0 []).2.length * 3) (nf (Dg.bld (tbl L ro n f) L.toNat L.toNat 0 []).2) → _) := Lib.hid fun l2 A2 c2 W hW h2 => specEqDg_any lo l2 L ro L ((Dg.bld (tbl L ro n f) L.toNat L.toNat 0 []).1 : Nat) A0 A2 n (Dg.bld (tbl L ro n f) L.toNat L.toNat 0 []).2.length c c2 f (nf (Dg.bld (tbl L ro n f) L.toNat L.toNat 0 []).2) W hn (by simp at hlen; omega) (H0.out.below hW (Nat.le_refl _)) h2
    have HV : Hid (DgEq L ro n f L ((Dg.bld (tbl L ro n f) L.toNat L.toNat 0 []).1 : Nat) (Dg.bld (tbl L ro n f) L.toNat L.toNat 0 []).2.length (nf (Dg.bld (tbl L ro n f) L.toNat L.toNat 0 []).2) ↔ VdS L ro n f) := Lib.hid (by
      unfold DgEq VdS
      rw [nds_iff hs]
      generalize Dg.bld (tbl L ro n f) L.toNat L.toNat 0 [] = R
      obtain ⟨r, ns⟩ := R
      simp only [true_and, Prod.mk.injEq]
      constructor
      · rintro ⟨h1, h2⟩
        exact ⟨hsh, by omega, h2⟩
      · rintro ⟨_, h1, h2⟩
        exact ⟨by omega, h2⟩)
    rw [er] at CT
    change Hid (∀ W, Below w.heap.size w W → Calls Try.prog _ _ W fun e w' => e = .returned (.string (tbS (tbl L ro n f) (2 ^ L.toNat))) ∧ Below W.heap.size W w') at CT
    clear hsh hP hB hlen er hs hL h4 hro hpw
    generalize VdS L ro n f = V at HV ⊢
    generalize DgEq L ro n f L ((Dg.bld (tbl L ro n f) L.toNat L.toNat 0 []).1 : Nat) (Dg.bld (tbl L ro n f) L.toNat L.toNat 0 []).2.length (nf (Dg.bld (tbl L ro n f) L.toNat L.toNat 0 []).2) = E at CE HV
    generalize tbS (tbl L ro n f) (2 ^ L.toNat) = TS at CT CO
    generalize Dg.bld (tbl L ro n f) L.toNat L.toNat 0 [] = R at CO CE
    obtain ⟨r2, ns⟩ := R
    dsimp only at CO CE
    generalize ns.length = m2 at CO CE
    generalize nf ns = f2 at CO CE
    go_enter Try.func39, Try.ntmps39
    go_upto_region 1 with fail
    generalize hW1 : (w.alloc (.cells #[.int .i64 L, .slice A0 n c, .int .i64 ro] 28)) = W1 at q0 q1 q2 hPl HB ⊢
    clear hW1
    go_region_held3 (fun w' => w'.cell? ⟨w.heap.size, 0, none⟩ = some (.int .i64 L) ∧ w'.cell? ⟨w.heap.size, 1, none⟩ = some (.slice A0 n c) ∧ w'.cell? ⟨w.heap.size, 2, none⟩ = some (.int .i64 ro) ∧ Below W1.heap.size W1 w')
      ((suffices hBB : Below W1.heap.size W1 _ from ⟨(hBB.cell hPl).trans q0, (hBB.cell hPl).trans q1, (hBB.cell hPl).trans q2, hBB⟩; first | exact Below.drew (Below.refl _ _) | exact (Below.refl _ W1).drew | exact held3q (by assumption) | (refine stepB (held3q (by assumption)) ?_; assumption)))
      (first
        | (go_at_call 65; refine (CS.out _ (HB.out.trans (Below.mono (held3q (by assumption)) HB.out.size))).mono ?_; rintro e w3 ⟨rfl, hb3⟩)
        | (go_at_call 43; refine (CT.out _ (HB.out.trans (Below.mono (held3q (by assumption)) HB.out.size))).mono ?_; rintro e w4 ⟨rfl, hb4⟩)
        | (go_at_call 41; refine (CO.out _).mono ?_; rintro e w5 ⟨⟨A2, c2, rfl, hm2⟩, hb5⟩; have HM := Lib.hid hm2; clear hm2)
        | (go_at_call 26; refine (CE.out _ _ _ _ (HB.out.trans (Below.mono (held3q (by assumption)) HB.out.size)) HM.out).mono ?_; rintro e w6 ⟨z, rfl, hz, hb6⟩))
    all_goals go_wp2_with fail
    all_goals go_ret
    all_goals exact ⟨z, rfl, Lib.hid (hz.out.trans HV.out), HB.out.trans (Below.mono (held3q (by assumption)) HB.out.size)⟩

end Go.Proofs.Ytamjfcckgeakfaa
