/-
  The program's SumRats.
-/
import Derived.Test.YtmmonglcbkefmaaGreatDoorSumI
namespace Go.Proofs.YtmmonglcbkefmaaGreatDoor
open Go.RowKit Num

theorem Tryz.infoFrac : (Tryz.prog.info? 62).map (fun i => (i.zero, i.size, i.bytes)) = some (some (.agg #[.bool false, .slice none 0 0, .slice none 0 0]), 3, 56) := by kernel_rfl

theorem mk_frac (n : Nat) (hn : n ≤ 1000) (w : World) :
    (Instr.makeSlice 115 (.int .i64 (n : Int)) (.int .i64 (n : Int))).run Tryz.prog w = .ok (.slice (some ⟨w.heap.size, 0, none⟩) n n) (w.alloc (.cells (madeCells #[.bool false, .slice none 0 0, .slice none 0 0] (n * 3)) 62)) := by
  obtain ⟨i, hi, hzz⟩ := Option.map_eq_some_iff.1 Tryz.infoFrac
  simp only [Prod.mk.injEq] at hzz
  obtain ⟨hz, hs, hb⟩ := hzz
  have hr := run_make (P := Tryz.prog) w 115 62 i _ Tryz.underlying115 hi hz .i64 .i64 n n (by omega) (Int.le_refl _) (by rw [hb]; omega) (by omega)
  simp only [Int.toNat_natCast, hs, Value.cells] at hr
  exact hr

/-- The first k places of the cells hold fractions. -/
def FilledF (w : World) (cs : Array Value) (G : Nat → Bool × Nat × Nat) (k : Nat) : Prop := ∀ j, j < k → ∃ vn vd, cs[j * 3]? = some (.bool (G j).1) ∧ cs[j * 3 + 1]? = some vn ∧ cs[j * 3 + 2]? = some vd ∧ Nums 54 .u64 WB w vn (G j).2.1 ∧ Nums 54 .u64 WB w vd (G j).2.2

theorem FilledF.below {w w' : World} {cs : Array Value} {G : Nat → Bool × Nat × Nat} {k : Nat} (h : FilledF w cs G k) (hb : Below w.heap.size w w') : FilledF w' cs G k := fun j hj => by
  obtain ⟨vn, vd, c0, c1, c2, g1, g2⟩ := h j hj
  exact ⟨vn, vd, c0, c1, c2, g1.below hb (Nat.le_refl _), g2.below hb (Nat.le_refl _)⟩

theorem FilledF.set {w : World} {g i : Nat} {u : Value} {t : TypeId} {cs cs' : Array Value} {G : Nat → Bool × Nat × Nat} {k : Nat} (h : FilledF w cs G k) (hx : Box w g t cs') (hne : 54 ≠ t) : FilledF (w.setCell ⟨g, i, none⟩ u) cs G k := fun j hj => by
  obtain ⟨vn, vd, c0, c1, c2, g1, g2⟩ := h j hj
  exact ⟨vn, vd, c0, c1, c2, g1.setCell (p := ⟨g, i, none⟩) (g1.apart hx hne) u, g2.setCell (p := ⟨g, i, none⟩) (g2.apart hx hne) u⟩

theorem FilledF.more {w : World} {cs : Array Value} {G : Nat → Bool × Nat × Nat} {k n : Nat} {vn vd : Value} (h : FilledF w cs G k) (hcs : cs.size = n * 3) (hk : k < n) (hn : Nums 54 .u64 WB w vn (G k).2.1) (hd : Nums 54 .u64 WB w vd (G k).2.2) :
    FilledF w (((cs.setIfInBounds (k * 3) (.bool (G k).1)).setIfInBounds (k * 3 + 1) vn).setIfInBounds (k * 3 + 2) vd) G (k + 1) := by
  intro j hj
  simp only [Array.getElem?_setIfInBounds, Array.size_setIfInBounds]
  by_cases hjk : j < k
  · obtain ⟨un, ud, c0, c1, c2, g1, g2⟩ := h j hjk
    refine ⟨un, ud, ?_, ?_, ?_, g1, g2⟩
    · rw [if_neg (by omega), if_neg (by omega), if_neg (by omega)]; exact c0
    · rw [if_neg (by omega), if_neg (by omega), if_neg (by omega)]; exact c1
    · rw [if_neg (by omega), if_neg (by omega), if_neg (by omega)]; exact c2
  · obtain rfl : j = k := by omega
    refine ⟨vn, vd, ?_, ?_, ?_, hn, hd⟩
    · rw [if_neg (by omega), if_neg (by omega), if_pos (by omega), if_pos (by omega)]
    · rw [if_neg (by omega), if_pos (by omega), if_pos (by omega)]
    · rw [if_pos (by omega), if_pos (by omega)]

theorem FilledF.at_ {w : World} {g : Nat} {cs : Array Value} {G : Nat → Bool × Nat × Nat} {n : Nat} (h : FilledF w cs G n) (hx : Box w g 62 cs) : FracAt w (some ⟨g, 0, none⟩) n G := fun _ => by
  refine ⟨g, 0, rfl, hx.lt, fun j hj => ?_⟩
  obtain ⟨vn, vd, c0, c1, c2, g1, g2⟩ := h j hj
  refine ⟨vn, vd, ?_, ?_, ?_, g1, g2⟩
  · rw [hx.cell, Nat.zero_add]; exact c0
  · rw [hx.cell, Nat.zero_add]; exact c1
  · rw [hx.cell, Nat.zero_add]; exact c2

theorem qOf_fit {F : Nat → Bool × ByteArray × ByteArray} {n : Nat} (h : ratsOk F n = true) : FitF (qOf F) 0 n := fun j hj => by
  rw [Nat.zero_add]
  exact ⟨qOf_low (ratsOk_at h hj), qOf_cap (ratsOk_at h hj)⟩

set_option maxRecDepth 100000 in
set_option maxHeartbeats 1600000 in
theorem implSum_any (A0 : Option Addr) (n cap : Nat) (F : Nat → Bool × ByteArray × ByteArray) (w : World) (hn : n ≤ 1048576) (hA : RatAt w A0 n F) (hs : ∀ j, j < n → (F j).2.1.size ≤ 9223372036854775807 ∧ (F j).2.2.size ≤ 9223372036854775807) (hU : UnitB w) (hT : Tab64 w) (hP : TabP w) :
    Calls Tryz.prog 32 #[.slice A0 n cap] w fun e w' => e = .returned (sumRes F n) ∧ Below w.heap.size w w' := by
  have HA := Lib.hid hA; clear hA
  have HS := Lib.hid hs; clear hs
  by_cases hk : n ≤ 1000
  · have hd : decide ((1000 : Int) < (n : Int)) = false := decide_eq_false (by omega)
    obtain ⟨r, hr⟩ : ∃ r, r = sumRes F n := ⟨_, rfl⟩
    rw [← hr]
    have Hr := Lib.hid hr; clear hr
    have hmk := mk_frac n hk
    have HU := Lib.hid hU; clear hU
    have HT := Lib.hid hT; clear hT
    have HP := Lib.hid hP; clear hP
    have hR := (Box.new w 24 #[.bool false, .string ⟨#[]⟩, .string ⟨#[]⟩]).alloc (.cells (madeCells #[.bool false, .slice none 0 0, .slice none 0 0] (n * 3)) 62)
    have hG := Box.new (w.alloc (.cells #[.bool false, .string ⟨#[]⟩, .string ⟨#[]⟩] 24)) 62 (madeCells #[.bool false, .slice none 0 0, .slice none 0 0] (n * 3))
    have hB := ((Below.refl w.heap.size w).alloc (Nat.le_refl _) (.cells #[.bool false, .string ⟨#[]⟩, .string ⟨#[]⟩] 24)).alloc (by simp) (.cells (madeCells #[.bool false, .slice none 0 0, .slice none 0 0] (n * 3)) 62)
    have e0 : ∀ (W : World) (o : Obj), (W.alloc o).heap.size = W.heap.size + 1 := fun W o => by simp
    rw [e0] at hG
    clear e0
    obtain ⟨W1, hW1⟩ : ∃ W1, W1 = (w.alloc (.cells #[.bool false, .string ⟨#[]⟩, .string ⟨#[]⟩] 24)).alloc (.cells (madeCells #[.bool false, .slice none 0 0, .slice none 0 0] (n * 3)) 62) := ⟨_, rfl⟩
    rw [← hW1] at hR hG hB
    go_enter Tryz.func32, Tryz.ntmps32
    go_wp2_with fail
    rw [← hW1]
    clear hmk hW1
    go_loopg [18] n (fun q iv wr => ∃ (k : Nat) (cs : Array Value), k + q = n ∧ iv = .int .i64 (k : Nat) ∧ ratsOk F k = true ∧ cs.size = n * 3 ∧ Box wr (w.heap.size + 1) 62 cs ∧ FilledF wr cs (qOf F) k ∧ Box wr w.heap.size 24 #[.bool false, .string ⟨#[]⟩, .string ⟨#[]⟩] ∧ Below w.heap.size w wr)
    case atStart => exact ⟨0, _, by omega, rfl, rfl, size_madeCells _ _, hG, fun j h => by omega, hR, hB⟩
    case round =>
      obtain ⟨k, cs, hkq, rfl, hok, hcs, hGr, hfill, hRr, hbel⟩ := hrel
      have HOK := Lib.hid hok; clear hok
      have HF := Lib.hid hfill; clear hfill
      clear hG hR hB
      by_cases hk0 : k < n
      · have hAw : RatAt wr A0 n F := HA.out.below hbel (Nat.le_refl _)
        obtain ⟨b, off, rfl, hb, r0, r1, r2⟩ := hAw.at_ hk0
        obtain ⟨s1, s2⟩ := HS.out k hk0
        obtain ⟨⟨rb, rx, ry⟩, hF⟩ : ∃ t, t = F k := ⟨_, rfl⟩
        have hstep : ratsOk F (k + 1) = (ratsOk F k && validR (F k).1 (F k).2.1 (F k).2.2) := rfl
        rw [HOK.out, Bool.true_and] at hstep
        have hqk : qOf F k = ((F k).1, numOf (F k).2.1, numOf (F k).2.2) := rfl
        rw [← hF] at r0 r1 r2 s1 s2 hstep hqk
        simp only at r0 r1 r2 s1 s2 hstep hqk
        have CV : Hid (∀ W, Below w.heap.size w W → _) := Lib.hid fun W hW => fracOf_all rb rx ry W s1 s2 (HU.out.below hW) (HT.out.below hW)
        have hT := Box.new wr 24 #[.bool rb, .string rx, .string ry]
        have hal := (Below.refl wr.heap.size wr).alloc (Nat.le_refl _) (.cells #[.bool rb, .string rx, .string ry] 24)
        replace hGr := hGr.below hal hGr.lt
        replace hRr := hRr.below hal hRr.lt
        replace HF := Lib.hid (HF.out.below hal)
        replace hbel := hbel.trans (hal.mono hbel.size)
        obtain ⟨t0, t1, t2, _, _, _⟩ := hT.three
        clear hb hAw hal
        cases hv : validR rb rx ry with
        | false =>
          rw [hv] at CV hstep
          have hrf := ratsOk_up (show k + 1 ≤ n by omega) hstep
          have hres : r = noRat := by rw [Hr.out]; unfold sumRes; rw [hrf, Bool.and_false]; rfl
          have Hres := Lib.hid hres
          clear hstep hv hrf hF hqk HF s1 s2 hres
          go_wp2_with (go_at_call 58; refine (CV.out _ hbel).mono ?_; rintro e w2 ⟨he, hb2⟩; simp only [Bool.false_eq_true, if_false] at he; subst he; unfold noFrac; replace hRr := hRr.below hb2 hRr.lt; replace hbel := hbel.trans (hb2.mono hbel.size); replace hRr := hRr.alloc (.cells #[.bool false, .slice none 0 0, .slice none 0 0] 62); replace hbel := hbel.alloc hbel.size (.cells #[.bool false, .slice none 0 0, .slice none 0 0] 62); obtain ⟨z0, z1, z2, f0, f1, f2⟩ := hRr.three)
          obtain ⟨m0, m1, m2⟩ := hRr.put3 (.bool false) (.string ⟨#[]⟩) (.string ⟨#[]⟩)
          refine bodyPost_ret (v := noRat) (by simp [results, Tryz.results32, go_sem, noRat, m0, m1, m2]; done) rfl ⟨by rw [Hres.out], ?_⟩
          exact below_put3 hbel (Nat.le_refl _) _ _ _
        | true =>
          rw [hv] at CV hstep
          have HST := Lib.hid hstep
          clear hstep hv hF s1 s2
          go_wp2_with (go_at_call 58; refine (CV.out _ hbel).mono ?_; rintro e w2 ⟨he, hb2⟩; simp only [if_true] at he; obtain ⟨vn, vd, rfl, hvn, hvd⟩ := he; obtain ⟨A5, c5, rfl, _, _, _⟩ := RowF.open hvn; obtain ⟨A6, c6, rfl, _, _, _⟩ := RowF.open hvd; replace hRr := hRr.below hb2 hRr.lt; replace hGr := hGr.below hb2 hGr.lt; replace HF := Lib.hid (HF.out.below hb2); replace hbel := hbel.trans (hb2.mono hbel.size); have hX := Box.new w2 62 #[.bool rb, .slice A5 (ln WB (numOf rx)) c5, .slice A6 (ln WB (numOf ry)) c6]; have hal := (Below.refl w2.heap.size w2).alloc (Nat.le_refl _) (.cells #[.bool rb, .slice A5 (ln WB (numOf rx)) c5, .slice A6 (ln WB (numOf ry)) c6] 62); replace hRr := hRr.below hal hRr.lt; replace hGr := hGr.below hal hGr.lt; replace HF := Lib.hid (HF.out.below hal); replace hvn := hvn.below hal (Nat.le_refl _); replace hvd := hvd.below hal (Nat.le_refl _); replace hbel := hbel.trans (hal.mono hbel.size); obtain ⟨z0, z1, z2, f0, f1, f2⟩ := three_at hGr (k * 3) (by omega); obtain ⟨y0, y1, y2, _, _, _⟩ := hX.three)
          go_roundg (gk - 1)
          case measure => omega
          case rel =>
            have hm := HF.out.more hcs hk0 (vn := .slice A5 (ln WB (numOf rx)) c5) (vd := .slice A6 (ln WB (numOf ry)) c6) (by rw [hqk]; exact hvn) (by rw [hqk]; exact hvd)
            rw [hqk] at hm
            have g1 := hGr.set (k * 3) (.bool rb)
            have g2 := g1.set (k * 3 + 1) (.slice A5 (ln WB (numOf rx)) c5)
            have g3 := g2.set (k * 3 + 2) (.slice A6 (ln WB (numOf ry)) c6)
            have hw0 : w.heap.size ≤ w.heap.size + 1 := Nat.le_succ _
            exact ⟨k + 1, _, by omega, by go_num, HST.out, by simp [hcs], g3, ((hm.set hGr (by decide)).set g1 (by decide)).set g2 (by decide), ((hRr.other (by omega) _ _).other (by omega) _ _).other (by omega) _ _, ((hbel.setCell (p := ⟨w.heap.size + 1, k * 3, none⟩) hw0 _).setCell (p := ⟨w.heap.size + 1, k * 3 + 1, none⟩) hw0 _).setCell (p := ⟨w.heap.size + 1, k * 3 + 2, none⟩) hw0 _⟩
      · obtain rfl : k = n := by omega
        have hfit := qOf_fit HOK.out
        obtain ⟨hlow, ln1, ln2⟩ := fit_ln hfit hk
        have hFr := HF.out.at_ hGr
        obtain ⟨o, ho⟩ : ∃ o, o = sumR (qOf F) 0 k := ⟨_, rfl⟩
        have hr : r = ratRes o.1 o.2.1 o.2.2 := by
          rw [Hr.out]; unfold sumRes
          rw [HOK.out, decide_eq_true hk, ho]; rfl
        have CS : Hid (∀ W, FracAt W (some ⟨w.heap.size + 1, 0, none⟩) k (fun j => qOf F (0 + j)) → Below w.heap.size w W → _) := Lib.hid fun W g hW => sumF_any (qOf F) k hk 0 k (some ⟨w.heap.size + 1, 0, none⟩) W (Nat.le_refl _) (by omega) g hfit (HT.out.below hW)
        have CR : Hid (∀ (u1 u2 : Value) W, Below w.heap.size w W → Nums 54 .u64 WB W u1 o.2.1 → Nums 54 .u64 WB W u2 o.2.2 → _) := Lib.hid fun u1 u2 W hW g1 g2 => ratF_all o.1 u1 u2 o.2.1 o.2.2 W (staysP.below _ _ HP.out hW) g1 g2
        rw [← ho] at CS
        obtain ⟨rb, rx, ry, rc, hres⟩ := ratRes_shape o.1 o.2.1 o.2.2
        rw [hres] at CR hr
        have Hres := Lib.hid hr
        have hFr' : FracAt wr (some ⟨w.heap.size + 1, 0, none⟩) k (fun j => qOf F (0 + j)) := by
          have e : (fun j => qOf F (0 + j)) = qOf F := funext fun j => by rw [Nat.zero_add]
          rw [e]; exact hFr
        clear hr hres ho hfit hlow ln1 ln2 hFr
        go_wp2_with (first
          | (go_at_call 83; refine (CS.out _ hFr' hbel).mono ?_; rintro e w2 ⟨⟨v, rfl, vn, vd, rfl, hvn, hvd⟩, hb2⟩; replace hRr := hRr.below hb2 hRr.lt; replace hbel := hbel.trans (hb2.mono hbel.size))
          | (go_at_call 43; refine (CR.out _ _ _ hbel hvn hvd).mono ?_; rintro e w3 ⟨rfl, hb3⟩; replace hRr := hRr.below hb3 hRr.lt; replace hbel := hbel.trans (hb3.mono hbel.size); obtain ⟨y0, y1, y2, f0, f1, f2⟩ := hRr.three))
        obtain ⟨m0, m1, m2⟩ := hRr.put3 (.bool rb) (.string rx) (.string ry)
        refine bodyPost_ret (v := .tuple #[.agg #[.bool rb, .string rx, .string ry], .bool rc]) (by simp [results, Tryz.results32, go_sem, m0, m1, m2]; done) rfl ⟨by rw [Hres.out], ?_⟩
        exact below_put3 hbel (Nat.le_refl _) _ _ _
  · have hd : decide ((1000 : Int) < (n : Int)) = true := decide_eq_true (by omega)
    have hres : sumRes F n = noRat := by unfold sumRes; rw [decide_eq_false hk, Bool.false_and]; rfl
    rw [hres]
    go_enter Tryz.func32, Tryz.ntmps32
    go_wp2_with fail
    exact bodyPost_ret (v := noRat) (by simp [results, Tryz.results32, go_sem, noRat]) rfl ⟨rfl, (Below.refl _ w).alloc (Nat.le_refl _) _⟩

end Go.Proofs.YtmmonglcbkefmaaGreatDoor
