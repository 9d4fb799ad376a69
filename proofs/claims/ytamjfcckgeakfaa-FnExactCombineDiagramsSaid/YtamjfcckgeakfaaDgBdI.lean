/-
  Decision diagrams, the program: a builder whose states are references.
-/
import Derived.Test.YtamjfcckgeakfaaDgKmU
import Derived.Test.YtamjfcckgeakfaaDgBr
namespace Go.Proofs.Ytamjfcckgeakfaa
open Go.RowKit Num

/-- How the closure answers: it makes nothing that was there turn. -/
def BrOkI {S : Type} (B0 : Nat) (w0 : World) (c1 c2 c3 : Value) (enc : S → Int) (B : Dg.Br S) : Prop :=
  ∀ s W, Below B0 w0 W → Calls Try.prog 74 #[.int .i64 (enc s), c1, c2, c3] W fun e w' => e = .returned (.agg #[.int .i64 (B.lev s : Nat), .int .i64 (enc (B.lo s)), .int .i64 (enc (B.hi s)), .int .i64 (B.val s : Nat)]) ∧ Below W.heap.size W w'

/-- What the builder leaves. -/
def BdPostI {S : Type} [DecidableEq S] (L mk mu k : Nat) (key : S → Lit) (B : Dg.Br S) (s : S) (kn : S → Option Nat) (ns : List Dg.Nd) (cnt : Nat) (w : World) (e : Ending) (w' : World) : Prop :=
  e = .returned (.int .i64 ((Dg.mk L B k s kn ns).1 : Nat)) ∧ (∃ cnt' sz', cnt' + 1 ≤ cnt + 2 ^ k ∧ KM 3 key w' mk cnt' sz' (Dg.mk L B k s kn ns).2.1) ∧ Ut w' mu (Dg.mk L B k s kn ns).2.2 ∧ But2 mk mu w w'

set_option maxRecDepth 100000 in
set_option maxHeartbeats 6400000 in
theorem brefI_any {S : Type} [DecidableEq S] (L B0 mk mu : Nat) (c1 c2 c3 : Value) (enc : S → Int) (key : S → Lit) (B : Dg.Br S) (w0 : World)
    (ok : KeyOk 3 123 (fun s => .int .i64 (enc s)) key) (hL : L ≤ 10) (hle : ∀ s, B.lev s ≤ L) (hup : ∀ s, B.lev s < L → B.lev s < B.lev (B.lo s) ∧ B.lev s < B.lev (B.hi s)) (hval : ∀ s, L ≤ B.lev s → B.val s < 4002)
    (hbr : BrOkI B0 w0 c1 c2 c3 enc B) (hk : B0 ≤ mk) (hu : B0 ≤ mu) (hne : mk ≠ mu) :
    ∀ (k : Nat) (s : S) (kn : S → Option Nat) (ns : List Dg.Nd) (cnt sz : Nat) (w : World), L + 1 ≤ B.lev s + k → (∀ x r, kn x = some r → r < 4002) → ns.length + 2 ^ k ≤ 4000 → cnt + 2 ^ k ≤ 4000 → KM 3 key w mk cnt sz kn → Ut w mu ns → Below B0 w0 w →
      Calls Try.prog 88 #[.agg #[.int .i64 (L : Nat), .func (.func 74) #[] #[c1, c2, c3], .map (some mk), .map (some mu)], .int .i64 (enc s)] w (BdPostI L mk mu k key B s kn ns cnt w) := by
  intro k
  induction k with
  | zero => intro s _ _ _ _ _ hf; have := hle s; omega
  | succ k ih =>
    intro s kn ns cnt sz w hf hkn hns hcnt hK hU hB
    have hp : 0 < 2 ^ k := Nat.pow_pos (by omega)
    rw [Nat.pow_succ] at hns hcnt
    have hkl := hK.lt
    have hul := hU.lt
    have hX := Box.new w 125 #[.int .i64 (L : Nat), .func (.func 74) #[] #[c1, c2, c3], .map (some mk), .map (some mu)]
    have hb1 := (Below.refl w.heap.size w).alloc (Nat.le_refl _) (.cells #[.int .i64 (L : Nat), .func (.func 74) #[] #[c1, c2, c3], .map (some mk), .map (some mu)] 125)
    have hK1 := hK.keep (hb1.block mk hkl)
    have hU1 := hU.keep (hb1.block mu hul)
    have hB1 := hB.trans (hb1.mono (by omega))
    have LK := hK1.ok ok s _ rfl
    cases hks : kn s with
    | some r =>
      rw [hks] at LK
      simp only [Option.getD_some, Option.isSome_some] at LK
      have HP : Hid (BdPostI L mk mu (k + 1) key B s kn ns cnt w (.returned (.int .i64 (r : Nat))) (w.alloc (.cells #[.int .i64 (L : Nat), .func (.func 74) #[] #[c1, c2, c3], .map (some mk), .map (some mu)] 125))) := Lib.hid (by
        unfold BdPostI
        rw [Dg.mk, hks]
        exact ⟨rfl, ⟨cnt, sz, by rw [Nat.pow_succ]; omega, hK1⟩, hU1, .of_below hb1⟩)
      obtain ⟨x0, x1, x2, x3⟩ := hX.quad
      clear hX hb1 hK1 hU1 hB1 hK hU hB hks ih hbr
      go_enter Try.func88, Try.ntmps88
      go_wp2_with fail
      go_ret
      exact HP.out
    | none =>
      rw [hks] at LK
      simp only [Option.getD_none, Option.isSome_none] at LK
      have CB := hbr s _ hB1
      by_cases hl : B.lev s < L
      · obtain ⟨u1, u2⟩ := hup s hl
        obtain ⟨s1, s2, s3⟩ := Dg.mk_small hval k (B.lo s) kn ns hkn (by omega)
        have CL : Hid (∀ W, KM 3 key W mk cnt sz kn → Ut W mu ns → Below B0 w0 W → _) := Lib.hid fun W h1 h2 h3 => ih (B.lo s) kn ns cnt sz W (by omega) hkn (by omega) (by omega) h1 h2 h3
        unfold BdPostI at CL
        have hmk : Dg.mk L B (k + 1) s kn ns = (let a := Dg.mk L B k (B.lo s) kn ns; let b := Dg.mk L B k (B.hi s) a.2.1 a.2.2; let r := Dg.putN b.2.2 (B.lev s) a.1 b.1; (r.1, fun x => if x = s then some r.1 else b.2.1 x, r.2)) := by
          rw [Dg.mk, hks]
          dsimp only
          rw [if_pos hl]
        generalize Dg.mk L B k (B.lo s) kn ns = a at s1 s2 s3 CL hmk
        obtain ⟨t1, t2, t3⟩ := Dg.mk_small hval k (B.hi s) a.2.1 a.2.2 s2 (by omega)
        have CH : Hid (∀ cnt2 sz2 W, cnt2 + 1 ≤ cnt + 2 ^ k → KM 3 key W mk cnt2 sz2 a.2.1 → Ut W mu a.2.2 → Below B0 w0 W → _) := Lib.hid fun cnt2 sz2 W h0 h1 h2 h3 => ih (B.hi s) a.2.1 a.2.2 cnt2 sz2 W (by omega) s2 (by omega) (by omega) h1 h2 h3
        unfold BdPostI at CH
        dsimp only at hmk
        generalize Dg.mk L B k (B.hi s) a.2.1 a.2.2 = b at t1 t2 t3 CH hmk
        have CU : Hid (∀ W, Ut W mu b.2.2 → _) := Lib.hid fun W h => uref_any mu (B.lev s) a.1 b.1 b.2.2 W (by unfold Sm; simp only; omega) h (by omega)
        have hz1 := Dg.putN_ref b.2.2 (B.lev s) a.1 b.1 s1 (by omega)
        generalize Dg.putN b.2.2 (B.lev s) a.1 b.1 = z at CU hz1 hmk
        have HC : Hid (cnt + 2 ^ k * 2 ≤ 4000) := Lib.hid hcnt
        have HMK := Lib.hid hmk
        clear ih hbr hkn hup hval hK hU hB hks s1 s2 s3 t1 t2 t3 hmk u1 u2 hle hf hns hcnt
        obtain ⟨x0, x1, x2, x3⟩ := hX.quad
        go_enter Try.func88, Try.ntmps88
        go_upto_region 10 with (first
          | (go_at_call 74
             refine CB.mono ?_
             rintro e w2 ⟨rfl, hb2⟩
             have hs2 := hb2.size
             simp only [World.size_alloc] at hs2
             have hX2 := (hX.below hb2 hX.lt).alloc (.cells #[.int .i64 (B.lev s : Nat), .int .i64 (enc (B.lo s)), .int .i64 (enc (B.hi s)), .int .i64 (B.val s : Nat)] 104)
             have hY2 := Box.new w2 104 #[.int .i64 (B.lev s : Nat), .int .i64 (enc (B.lo s)), .int .i64 (enc (B.hi s)), .int .i64 (B.val s : Nat)]
             have ha2 := (Below.refl w2.heap.size w2).alloc (Nat.le_refl _) (.cells #[.int .i64 (B.lev s : Nat), .int .i64 (enc (B.lo s)), .int .i64 (enc (B.hi s)), .int .i64 (B.val s : Nat)] 104)
             have hK2 := (hK1.keep (hb2.block mk (by simp; omega))).keep (ha2.block mk (by omega))
             have hU2 := (hU1.keep (hb2.block mu (by simp; omega))).keep (ha2.block mu (by omega))
             have hB2 := (hB1.trans (hb2.mono (by simp; omega))).trans (ha2.mono (by omega))
             have hW2 : But2 mk mu w (w2.alloc (.cells #[.int .i64 (B.lev s : Nat), .int .i64 (enc (B.lo s)), .int .i64 (enc (B.hi s)), .int .i64 (B.val s : Nat)] 104)) := ((But2.of_below hb1).trans (.of_below hb2)).trans (.of_below ha2)
             clear x0 x1 x2 x3 hX hb1 hK1 hU1 hB1 hb2 ha2 LK CB
             obtain ⟨x0, x1, x2, x3⟩ := hX2.quad
             obtain ⟨y0, y1, y2, y3⟩ := hY2.quad)
          | (go_at_call 88
             have hK2' := hK2
             refine (CL.out _ hK2' hU2 hB2).mono ?_
             rintro e w4 ⟨rfl, ⟨cnt4, sz4, hc4, hK4⟩, hU4, ho4⟩
             have hX4 := hX2.but2 ho4 (by omega) (by omega)
             have hY4 := hY2.but2 ho4 (by omega) (by omega)
             have hB4 := hB2.trans (ho4.below hk hu (by simp; omega))
             have hW4 := hW2.trans ho4
             clear x0 x1 x2 x3 y0 y1 y2 y3 hX2 hY2 hK2 hK2' hU2 hB2 hW2 ho4 CL
             obtain ⟨x0, x1, x2, x3⟩ := hX4.quad
             obtain ⟨y0, y1, y2, y3⟩ := hY4.quad)
          | (go_at_call 88
             refine (CH.out cnt4 sz4 _ hc4 hK4 hU4 hB4).mono ?_
             rintro e w5 ⟨rfl, ⟨cnt5, sz5, hc5, hK5⟩, hU5, ho5⟩
             have hX5 := hX4.but2 ho5 (by omega) (by omega)
             have hY5 := hY4.but2 ho5 (by omega) (by omega)
             have hW5 := hW4.trans ho5
             clear x0 x1 x2 x3 y0 y1 y2 y3 hX4 hY4 hK4 hU4 hB4 hW4 ho5 CH
             obtain ⟨x0, x1, x2, x3⟩ := hX5.quad
             obtain ⟨y0, y1, y2, y3⟩ := hY5.quad)
          | (go_at_call 95
             refine (CU.out _ hU5).mono ?_
             rintro e w6 ⟨rfl, hU6, ho6⟩
             have ho6' : But2 mk mu w5 w6 := ⟨ho6.os, ho6.tape, ho6.output, ho6.size, fun k h1 _ h3 => ho6.block k h1 h3 h3⟩
             have hX6 := hX5.but2 ho6' (by omega) (by omega)
             have hW6 := hW5.trans ho6'
             have hK6 := hK5.keep (ho6.block mk hK5.lt hne hne)
             clear x0 x1 x2 x3 y0 y1 y2 y3 hX5 hY5 hK5 hU5 hW5 ho6 ho6' CU
             obtain ⟨x0, x1, x2, x3⟩ := hX6.quad))
        have hc6 := HC.out
        obtain ⟨w7, hput, hK7, hg7⟩ := hK6.put ok s z.1 (by omega) (by unfold maxLen; omega)
        have HP : Hid (BdPostI L mk mu (k + 1) key B s kn ns cnt w (.returned (.int .i64 (z.1 : Nat))) w7) := Lib.hid (by
          unfold BdPostI
          rw [HMK.out]
          exact ⟨rfl, ⟨_, _, by rw [Nat.pow_succ]; omega, hK7⟩, hU6.keep (hg7.block mu hU6.lt (by simpa using fun e => hne e.symm)), hW6.trans (.of_grown hg7 (.inl rfl))⟩)
        clear hK7 hg7 hK6 hU6 hW6 hX6 HMK HC
        go_wp2_with fail
        go_ret
        exact HP.out
      · have hv := hval s (by omega)
        have hmk : Dg.mk L B (k + 1) s kn ns = (B.val s, fun x => if x = s then some (B.val s) else kn x, ns) := by
          rw [Dg.mk, hks]
          dsimp only
          rw [if_neg hl]
        have HMK := Lib.hid hmk
        clear ih hbr hkn hup hval hK hU hB hks hmk hle hf
        obtain ⟨x0, x1, x2, x3⟩ := hX.quad
        go_enter Try.func88, Try.ntmps88
        go_upto_region 10 with (go_at_call 74
                                refine CB.mono ?_
                                rintro e w2 ⟨rfl, hb2⟩
                                have hs2 := hb2.size
                                simp only [World.size_alloc] at hs2
                                have hX2 := (hX.below hb2 hX.lt).alloc (.cells #[.int .i64 (B.lev s : Nat), .int .i64 (enc (B.lo s)), .int .i64 (enc (B.hi s)), .int .i64 (B.val s : Nat)] 104)
                                have hY2 := Box.new w2 104 #[.int .i64 (B.lev s : Nat), .int .i64 (enc (B.lo s)), .int .i64 (enc (B.hi s)), .int .i64 (B.val s : Nat)]
                                have ha2 := (Below.refl w2.heap.size w2).alloc (Nat.le_refl _) (.cells #[.int .i64 (B.lev s : Nat), .int .i64 (enc (B.lo s)), .int .i64 (enc (B.hi s)), .int .i64 (B.val s : Nat)] 104)
                                have hK2 := (hK1.keep (hb2.block mk (by simp; omega))).keep (ha2.block mk (by omega))
                                have hU2 := (hU1.keep (hb2.block mu (by simp; omega))).keep (ha2.block mu (by omega))
                                have hW2 : But2 mk mu w (w2.alloc (.cells #[.int .i64 (B.lev s : Nat), .int .i64 (enc (B.lo s)), .int .i64 (enc (B.hi s)), .int .i64 (B.val s : Nat)] 104)) := ((But2.of_below hb1).trans (.of_below hb2)).trans (.of_below ha2)
                                clear x0 x1 x2 x3 hX hb1 hK1 hU1 hB1 hb2 ha2 LK CB
                                obtain ⟨x0, x1, x2, x3⟩ := hX2.quad
                                obtain ⟨y0, y1, y2, y3⟩ := hY2.quad)
        obtain ⟨w7, hput, hK7, hg7⟩ := hK2.put ok s (B.val s) (by omega) (by unfold maxLen; omega)
        have HP : Hid (BdPostI L mk mu (k + 1) key B s kn ns cnt w (.returned (.int .i64 (B.val s : Nat))) w7) := Lib.hid (by
          unfold BdPostI
          rw [HMK.out]
          exact ⟨rfl, ⟨_, _, by rw [Nat.pow_succ]; omega, hK7⟩, hU2.keep (hg7.block mu hU2.lt (by simpa using fun e => hne e.symm)), hW2.trans (.of_grown hg7 (.inl rfl))⟩)
        clear hK7 hg7 hK2 hU2 hW2 hX2 hY2 HMK
        go_wp2_with fail
        go_ret
        exact HP.out

end Go.Proofs.Ytamjfcckgeakfaa
