/-
  Decision diagrams, the model: building a diagram out of a table, the walk.
-/
import Derived.Test.YtamjfcckgeakfaaDgB
namespace Go.Proofs.Ytamjfcckgeakfaa
open Go.RowKit Num

theorem Try.infoNodeDg : (Try.prog.info? 86).map (fun i => (i.zero, i.size, i.bytes)) = some (some (.agg #[.int .i64 0, .int .i64 0, .int .i64 0]), 3, 24) := by kernel_rfl

theorem cells_three_new (w : World) (t : TypeId) (x y z : Value) : ∀ j u, [x, y, z][j]? = some u → (w.alloc (.cells #[x, y, z] t)).cell? ((⟨w.heap.size, 0, none⟩ : Addr).add j) = some u := by
  intro j u hu
  obtain ⟨h0, h1, h2, _⟩ := (Box.new w t #[x, y, z]).three
  have hz : ∀ j, (⟨w.heap.size, 0, none⟩ : Addr).add j = ⟨w.heap.size, j, none⟩ := fun j => by unfold Addr.add; split <;> simp_all
  rw [hz]
  match j, hu with
  | 0, hu => cases hu; exact h0
  | 1, hu => cases hu; exact h1
  | 2, hu => cases hu; exact h2
  | j + 3, hu => simp at hu

/-- What building makes. -/
def BdPost (T : Nat → Bool) (L b m q : Nat) (ns : List Dg.Nd) (w : World) (e : Ending) (w' : World) : Prop :=
  e = .returned (.int .i64 ((Dg.bld T L m q ns).1 : Nat)) ∧ Bd w' b (Dg.bld T L m q ns).2 ∧ Below b w w'

theorem own3_stay {w w' : World} {B base size : Nat} {e : TypeId} {v : Value} {n : Nat} {xs : List Value} (h : w.ownsRow base e size v n xs) (hb : Below B w w') (hB : w.heap.size ≤ B) : w'.ownsRow base e size v n xs := by
  refine ⟨h.1, ?_⟩
  rcases h.2 with h2 | ⟨b, cap, cur, rfl, h3, h4, h5⟩
  · exact .inl h2
  · exact .inr ⟨b, cap, cur, rfl, h3, (hb.block b (Nat.lt_of_lt_of_le (heap_lt h4) hB)).trans h4, h5⟩

theorem own3_old {w : World} {base n k g : Nat} {t : TypeId} {v : Value} {xs : List Value} (h : w.ownsRow base t k v n xs) (hg : g < base) : some g ≠ v.ownBlock := fun e => by
  rcases h.2 with ⟨rfl, _⟩ | ⟨k, cap, cur, rfl, h3, h4, _⟩
  · simp [Value.ownBlock] at e
  · have e' : g = k := by simpa [Value.ownBlock] using e
    omega

theorem Bd.lt {w : World} {b : Nat} {ns : List Dg.Nd} (h : Bd w b ns) : b < w.heap.size := by
  obtain ⟨v, h1, _⟩ := h
  exact h1.lt

set_option maxRecDepth 100000 in
set_option maxHeartbeats 12800000 in
theorem build_any (T : Nat → Bool) (L b : Nat) (hL : L ≤ 10) :
    ∀ (m q : Nat) (ns : List Dg.Nd) (w : World) (S : ByteArray), m ≤ L → S.size = 2 ^ m → (∀ j, j < 2 ^ m → S.data.toList[j]? = some (if T (q * 2 ^ m + j) then 49 else 48)) → ns.length + 2 ^ m ≤ 4000 → Bd w b ns →
    Calls Try.prog 66 #[.pointer (some ⟨b, 0, none⟩), .string S, .int .i64 ((L - m : Nat) : Int)] w (BdPost T L b m q ns w) := by
  intro m
  induction m with
  | zero =>
    intro q ns w S hm hz hS hl hb
    have f1 : ((S.size : Nat) : Int) == 1 := by rw [hz]; rfl
    have hb0 := hS 0 (by omega)
    have hk0 : 0 < S.size := by rw [hz]; decide
    rw [byte_at hk0] at hb0
    injection hb0 with hb0
    simp only [Nat.pow_zero, Nat.mul_one, Nat.add_zero] at hb0
    unfold BdPost
    rw [Dg.bld]
    cases hT : T q with
    | true =>
      rw [hT] at hb0
      have g1 : ((S[0]'hk0).toNat : Int) = 49 := by rw [hb0]; rfl
      clear hS hb0 hT hl
      go_enter Try.func66, Try.ntmps66
      go_wp2_with fail
      go_ret
      exact ⟨rfl, hb, Below.refl _ _⟩
    | false =>
      rw [hT] at hb0
      have g1 : ((S[0]'hk0).toNat : Int) = 48 := by rw [hb0]; rfl
      clear hS hb0 hT hl
      go_enter Try.func66, Try.ntmps66
      go_wp2_with fail
      go_ret
      exact ⟨rfl, hb, Below.refl _ _⟩
  | succ m ih =>
    intro q ns w S hm hz hS hl hb
    obtain ⟨z1, S1⟩ := half_lo hz hS
    obtain ⟨z2, S2⟩ := half_hi hz hS
    have hp2 : 2 ^ (m + 1) = 2 * 2 ^ m := by rw [Nat.pow_succ]; omega
    have hp0 : 0 < 2 ^ m := Nat.pow_pos (by omega)
    have hn1 := bld_len T L m (2 * q) ns
    have hn2 := bld_len T L m (2 * q + 1) (Dg.bld T L m (2 * q) ns).2
    have CA : Hid (∀ W, Bd W b ns → _) := Lib.hid fun W h => ih (2 * q) ns W (S.extract 0 (2 ^ m)) (by omega) z1 S1 (by omega) h
    have CB : Hid (∀ W, Bd W b (Dg.bld T L m (2 * q) ns).2 → _) := Lib.hid fun W h => ih (2 * q + 1) (Dg.bld T L m (2 * q) ns).2 W (S.extract (2 ^ m) S.size) (by omega) z2 S2 (by omega) h
    have f1 : (((S.size : Nat) : Int) == 1) = false := by rw [beq_eq_false_iff_ne]; omega
    have hszH : S.size = 2 * 2 ^ m := by omega
    have ed : IntKind.i64.wrap (((S.size : Nat) : Int) / 2) = ((2 ^ m : Nat) : Int) := by rw [hszH, IntWalk.i64_in _ (by omega)]; omega
    have el : IntKind.i64.wrap (((L - (m + 1) : Nat) : Int) + 1) = ((L - m : Nat) : Int) := by rw [IntWalk.i64_in _ (by omega)]; omega
    have hB := Below.refl b w
    have HL : Hid ((Dg.bld T L m (2 * q + 1) (Dg.bld T L m (2 * q) ns).2).2.length ≤ 4000) := Lib.hid (by omega)
    have HV : Hid (Dg.bld T L (m + 1) q ns = if (Dg.bld T L m (2 * q) ns).1 = (Dg.bld T L m (2 * q + 1) (Dg.bld T L m (2 * q) ns).2).1 then ((Dg.bld T L m (2 * q) ns).1, (Dg.bld T L m (2 * q + 1) (Dg.bld T L m (2 * q) ns).2).2) else ((Dg.bld T L m (2 * q + 1) (Dg.bld T L m (2 * q) ns).2).2.idxOf (L - (m + 1), (Dg.bld T L m (2 * q) ns).1, (Dg.bld T L m (2 * q + 1) (Dg.bld T L m (2 * q) ns).2).1) + 2, if (L - (m + 1), (Dg.bld T L m (2 * q) ns).1, (Dg.bld T L m (2 * q + 1) (Dg.bld T L m (2 * q) ns).2).1) ∈ (Dg.bld T L m (2 * q + 1) (Dg.bld T L m (2 * q) ns).2).2 then (Dg.bld T L m (2 * q + 1) (Dg.bld T L m (2 * q) ns).2).2 else (Dg.bld T L m (2 * q + 1) (Dg.bld T L m (2 * q) ns).2).2 ++ [(L - (m + 1), (Dg.bld T L m (2 * q) ns).1, (Dg.bld T L m (2 * q + 1) (Dg.bld T L m (2 * q) ns).2).1)])) := Lib.hid rfl
    have hH : 2 ^ m ≤ S.size := by omega
    have hHi : (0 : Int) ≤ ((2 ^ m : Nat) : Int) ∧ ((2 ^ m : Nat) : Int) ≤ ((S.size : Nat) : Int) := ⟨Int.natCast_nonneg _, Int.ofNat_le.2 hH⟩
    generalize 2 ^ m = H at CA CB ed hszH hH hHi
    clear S1 S2 hS z1 z2 ih hp0 hp2 hn1 hn2 hz hszH
    unfold BdPost
    rw [HV.out]
    clear HV
    unfold BdPost at CA CB
    generalize Dg.bld T L m (2 * q) ns = a at CA CB HL ⊢
    generalize Dg.bld T L m (2 * q + 1) a.2 = bb at CB HL ⊢
    obtain ⟨a, ns1⟩ := a
    obtain ⟨bb, ns2⟩ := bb
    dsimp only at CA CB HL ⊢
    obtain ⟨R1, R2, hR⟩ : ∃ R1 R2, (if a = bb then (a, ns2) else (ns2.idxOf (L - (m + 1), a, bb) + 2, if (L - (m + 1), a, bb) ∈ ns2 then ns2 else ns2 ++ [(L - (m + 1), a, bb)])) = (R1, R2) := ⟨_, _, rfl⟩
    rw [hR]
    have HR := Lib.hid hR
    clear hR
    dsimp only
    go_enter Try.func66, Try.ntmps66
    go_upto_region 5 with (first
      | (go_at_call 66
         with_reducible refine (CB.out _ hb1).mono ?_
         rintro e w2 ⟨rfl, hb2, hbe2⟩
         have hB2 := hB1.trans hbe2)
      | (go_at_call 66
         with_reducible refine (CA.out _ hb).mono ?_
         rintro e w1 ⟨rfl, hb1, hbe1⟩
         have hB1 := hB.trans hbe1))
    clear CA CB hb hb1 hbe1 hB hB1 hbe2 ed hHi hH el f1 hl
    by_cases hab : a = bb
    · have f2 : ((a : Int) == (bb : Int)) = true := by rw [hab]; exact beq_self_eq_true _
      have hr := HR.out
      rw [if_pos hab] at hr
      injection hr with hr1 hr2
      clear hab
      go_wp2_with fail
      go_ret
      exact ⟨by rw [← hr1]; rfl, by rw [← hr2]; exact hb2, hB2⟩
    · have f2 : ((a : Int) == (bb : Int)) = false := by rw [beq_eq_false_iff_ne]; omega
      have hr := HR.out
      rw [if_neg hab] at hr
      injection hr with hr1 hr2
      have HR1 := Lib.hid hr1
      have HR2 := Lib.hid hr2
      clear hab hr1 hr2 HR
      obtain ⟨v2, hbx, hown⟩ := hb2
      obtain ⟨g0, m0, c0, rfl⟩ := own_slice hown
      obtain ⟨rfl, hI⟩ := own3_ints hown
      have HI := Lib.hid hI
      clear hI
      have hX := Box.new w2 86 #[.int .i64 ((L - (m + 1) : Nat) : Int), .int .i64 (a : Int), .int .i64 (bb : Int)]
      have hB3 := hB2.alloc (Nat.le_of_lt hbx.lt) (.cells #[.int .i64 ((L - (m + 1) : Nat) : Int), .int .i64 (a : Int), .int .i64 (bb : Int)] 86)
      have hal := (Below.refl w2.heap.size w2).alloc (Nat.le_refl _) (.cells #[.int .i64 ((L - (m + 1) : Nat) : Int), .int .i64 (a : Int), .int .i64 (bb : Int)] 86)
      have hbx3 := hbx.alloc (.cells #[.int .i64 ((L - (m + 1) : Nat) : Int), .int .i64 (a : Int), .int .i64 (bb : Int)] 86)
      have k0 := hbx3.cell 0
      have k1 := hbx.cell 0
      have HW := Lib.hid hown
      clear hown
      go_wp2_with fail
      clear k0 k1
      have HLT := Lib.hid hbx.lt
      generalize hW : World.alloc _ _ = W3 at hX hB3 hal hbx3 ⊢
      clear hW
      generalize w2.heap.size = sx at hX ⊢
      have hll := HL.out
      go_loopg [50] ns2.length (fun q iv wr => ∃ k : Nat, k + q = ns2.length ∧ iv = .int .i64 (k : Nat) ∧ Hid (∀ j (hj : j < ns2.length), j < k → ns2[j] ≠ (L - (m + 1), a, bb)) ∧ Below W3.heap.size W3 wr)
      case atStart => exact ⟨0, by omega, rfl, Lib.hid fun j _ h => by omega, Below.refl _ _⟩
      case round =>
        obtain ⟨k, hk, rfl, hq, hbel⟩ := hrel
        have hX4 := hX.below hbel hX.lt
        have hbx4 := hbx3.below hbel hbx3.lt
        have hB4 := hB3.trans (hbel.mono (Nat.le_of_lt hbx3.lt))
        obtain ⟨x0, x1, x2⟩ := hX4.trio
        by_cases hk0 : k < ns2.length
        · obtain ⟨gb, off, rfl, hgb, r0, r1, r2⟩ := ((HI.out.below hal (Nat.le_refl _)).below hbel (Nat.le_refl _)).trio hk0
          obtain ⟨n0, n1, n2⟩ := nf_at ns2 hk0
          rw [n0] at r0
          rw [n1] at r1
          rw [n2] at r2
          obtain ⟨y, hy⟩ : ∃ y, y = ns2[k] := ⟨_, rfl⟩
          rw [← hy] at r0 r1 r2
          have HY := Lib.hid hy
          clear n0 n1 n2 hy
          have hB5 := hB4.alloc (Nat.le_of_lt hbx4.lt) (.cells #[.int .i64 (y.1 : Nat), .int .i64 (y.2.1 : Nat), .int .i64 (y.2.2 : Nat)] 86)
          have hX5 := hX4.alloc (.cells #[.int .i64 (y.1 : Nat), .int .i64 (y.2.1 : Nat), .int .i64 (y.2.2 : Nat)] 86)
          have hY5 := Box.new wr 86 #[.int .i64 (y.1 : Nat), .int .i64 (y.2.1 : Nat), .int .i64 (y.2.2 : Nat)]
          obtain ⟨s0, s1, s2⟩ := hX5.trio
          obtain ⟨t0, t1, t2⟩ := hY5.trio
          cases e1 : nd3 ((L - (m + 1) : Nat) : Int) (a : Int) (bb : Int) (y.1 : Nat) (y.2.1 : Nat) (y.2.2 : Nat) with
          | true =>
            have NR : ∀ W, (binOp .eql 86 (.agg #[.int .i64 ((L - (m + 1) : Nat) : Int), .int .i64 (a : Int), .int .i64 (bb : Int)]) (.agg #[.int .i64 (y.1 : Nat), .int .i64 (y.2.1 : Nat), .int .i64 (y.2.2 : Nat)])).run Try.prog W = .ok (.bool true) W := fun W => by rw [eqlOfDgn, e1]
            have HE : Hid (ns2[k] = (L - (m + 1), a, bb)) := Lib.hid (by
              have := nd3_iff.1 e1
              rw [← HY.out]
              obtain ⟨y0, y1, y2⟩ := y
              simp only at this
              simp only [Prod.mk.injEq]
              omega)
            have er : IntKind.i64.wrap ((k : Int) + 2) = ((k + 2 : Nat) : Int) := by rw [IntWalk.i64_in _ (by omega)]; omega
            clear e1
            go_wp2_with fail
            go_ret
            have hidx := idx_first hk0 HE.out (fun j hj hjk => hq.out j hj hjk)
            have hmem : (L - (m + 1), a, bb) ∈ ns2 := by rw [← HE.out]; exact List.getElem_mem hk0
            have hr1 := HR1.out
            have hr2 := HR2.out
            rw [hidx] at hr1
            rw [if_pos hmem] at hr2
            have hfin := own3_stay (own3_stay (own3_stay HW.out hal (Nat.le_refl _)) hbel (Nat.le_refl _)) ((Below.refl wr.heap.size wr).alloc (Nat.le_refl _) (.cells #[.int .i64 (y.1 : Nat), .int .i64 (y.2.1 : Nat), .int .i64 (y.2.2 : Nat)] 86)) (Nat.le_refl _)
            exact ⟨by rw [← hr1]; rfl, by rw [← hr2]; exact ⟨_, hbx4.alloc _, hfin⟩, hB5⟩
          | false =>
            have NR : ∀ W, (binOp .eql 86 (.agg #[.int .i64 ((L - (m + 1) : Nat) : Int), .int .i64 (a : Int), .int .i64 (bb : Int)]) (.agg #[.int .i64 (y.1 : Nat), .int .i64 (y.2.1 : Nat), .int .i64 (y.2.2 : Nat)])).run Try.prog W = .ok (.bool false) W := fun W => by rw [eqlOfDgn, e1]
            have HE : Hid (ns2[k] ≠ (L - (m + 1), a, bb)) := Lib.hid (by
              intro he
              rw [← HY.out] at he
              rw [he] at e1
              simp [nd3] at e1)
            clear e1
            go_wp2_with fail
            go_roundg (gk - 1)
            case rel => exact ⟨k + 1, by omega, by go_num, Lib.hid fun j hj hjk => by
              by_cases hjk' : j < k
              · exact hq.out j hj hjk'
              · obtain rfl : j = k := by omega
                exact HE.out, hbel.alloc hbel.size _⟩
            case measure => omega
        · obtain rfl : k = ns2.length := by omega
          have hni : (L - (m + 1), a, bb) ∉ ns2 := fun hm => by
            obtain ⟨j, hj, he⟩ := List.getElem_of_mem hm
            exact hq.out j hj hj he
          have hr1 := HR1.out
          have hr2 := HR2.out
          rw [List.idxOf_eq_length hni] at hr1
          rw [if_neg hni] at hr2
          have hown4 := own3_stay (own3_stay HW.out hal (Nat.le_refl _)) hbel (Nat.le_refl _)
          have hown5 : wr.drew.ownsRow (b + 1) 86 3 (.slice g0 ns2.length c0) ns2.length (cells3 ns2) := hown4
          have hbx5 : Box wr.drew b _ _ := hbx4
          have k0 := hbx4.cell 0
          have kf := hbx4.free 0
          have hsz4 := hbx4.lt
          obtain ⟨i0, hi, hz0, hz1, hz2⟩ := info_parts Try.infoNodeDg
          clear hown4 hq hni
          go_upto_region 14 with fail
          go_region_law ((refine step_append_lies _ (by rfl) _ _ 26 (by rfl) (b + 1) 86 i0 (.agg #[.int .i64 0, .int .i64 0, .int .i64 0]) 3 24 Try.underlying26 hi hz0 hz1 hz2 rfl (by decide) _ _ _ (by rfl) (hown5.alloc _) ⟨wr.heap.size, 0, none⟩ 1 1 [.int .i64 ((L - (m + 1) : Nat) : Int), .int .i64 (a : Int), .int .i64 (bb : Int)] (by rfl) rfl (cells_three_new wr.drew _ _ _ _) (by intro u hu; simp at hu; rcases hu with rfl | rfl | rfl <;> rfl) (by omega) (by unfold maxLen; omega) (by omega) (by simp; omega) (wr.heap.size + 1) (by simp) ?_; intro g cap w7 hown7 hgrow7 hat7 hlt7; have hb7 := grown_box hgrow7 (hbx5.alloc _) (own3_old hown5 (Nat.lt_succ_self b)); have kk0 := hb7.cell 0; have kkf := hb7.free 0))
          all_goals
            have hb8 : Box (w7.setCell ⟨b, 0, none⟩ (.slice (some ⟨g, 0, none⟩) (ns2.length + 1) cap)) b 94 #[.slice (some ⟨g, 0, none⟩) (ns2.length + 1) cap] := hb7.set 0 _
            have hB8 : Below b w (w7.setCell ⟨b, 0, none⟩ (.slice (some ⟨g, 0, none⟩) (ns2.length + 1) cap)) := by
              refine Below.setCell (p := ⟨b, 0, none⟩) ?_ (Nat.le_refl b) _
              refine grown_below ((hB4.drew).alloc (by show b ≤ wr.heap.size; omega) (.cells #[.int .i64 ((L - (m + 1) : Nat) : Int), .int .i64 (a : Int), .int .i64 (bb : Int)] 86)) hgrow7 (fun k hk => ?_) (by simp; omega)
              by_cases hkb : k < b + 1
              · exact absurd hk.symm (own3_old hown5 hkb)
              · omega
            have hO8 : (w7.setCell ⟨b, 0, none⟩ (.slice (some ⟨g, 0, none⟩) (ns2.length + 1) cap)).ownsRow (b + 1) 86 3 (.slice (some ⟨g, 0, none⟩) (ns2.length + 1) cap) (ns2 ++ [(L - (m + 1), a, bb)]).length (cells3 (ns2 ++ [(L - (m + 1), a, bb)])) := by
              rw [cells3_snoc, List.length_append, List.length_singleton]
              refine ⟨hown7.1, ?_⟩
              rcases hown7.2 with h | ⟨g9, cap9, cur9, e9, h3, h4, h5⟩
              · exact .inl h
              · exact .inr ⟨g9, cap9, cur9, e9, h3, (Below.heap_setCell _ _ _ _ (by show g9 ≠ b; omega)).trans h4, h5⟩
            have HO8 := Lib.hid hO8
            have HB8 := Lib.hid hB8
            have HX8 := Lib.hid hb8
            have kk1 := hb8.cell 0
            have er : IntKind.i64.wrap ((ns2.length : Int) + 1 + 1) = ((ns2.length + 2 : Nat) : Int) := by rw [IntWalk.i64_in _ (by omega)]; omega
            have er2 : IntKind.i64.wrap (((ns2.length + 1 : Nat) : Int) + 1) = ((ns2.length + 2 : Nat) : Int) := by rw [IntWalk.i64_in _ (by omega)]; omega
            clear hown7 hgrow7 hat7 hlt7 hb7 kk0 kkf hO8 hB8 hb8 hown5 hbx5
            generalize World.setCell _ _ _ = w8 at HO8 HB8 HX8 kk1 ⊢
            go_wp2_with fail
            go_ret
            exact ⟨by rw [← hr1]; rfl, by rw [← hr2]; exact ⟨_, HX8.out, HO8.out⟩, HB8.out⟩

end Go.Proofs.Ytamjfcckgeakfaa
