/-
  Decision diagrams, the model: the diagram of a table; whether a diagram is valid.
-/
import Derived.Test.YtamjfcckgeakfaaDgD
import Derived.Test.YtamjfcckgeakfaaDgS
namespace Go.Proofs.Ytamjfcckgeakfaa
open Go.RowKit Num

set_option maxRecDepth 100000 in
set_option maxHeartbeats 3200000 in
theorem specOf_any (T : Nat → Bool) (L : Int) (w : World) (h0L : 0 ≤ L) (hL : L ≤ 10) :
    Calls Try.prog 41 #[.int .i64 L, .string (tbS T (2 ^ L.toNat))] w fun e w' => (∃ A c, e = .returned (dgV L A (Dg.bld T L.toNat L.toNat 0 []).2.length c ((Dg.bld T L.toNat L.toNat 0 []).1 : Nat)) ∧ IntsAt w.heap.size w' A ((Dg.bld T L.toNat L.toNat 0 []).2.length * 3) (nf (Dg.bld T L.toNat L.toNat 0 []).2)) ∧ Below w.heap.size w w' := by
  have hpw : 2 ^ L.toNat ≤ 1024 := Nat.le_trans (Nat.pow_le_pow_right (by omega) (show L.toNat ≤ 10 by omega)) (by decide)
  have hbx := Box.new (w.alloc (.cells #[.int .i64 0, .slice none 0 0, .int .i64 0] 28)) 94 #[.slice none 0 0]
  have hRx := (Box.new w 28 #[.int .i64 0, .slice none 0 0, .int .i64 0]).alloc (.cells #[.slice none 0 0] 94)
  have hB := ((Below.refl w.heap.size w).alloc (Nat.le_refl _) (.cells #[.int .i64 0, .slice none 0 0, .int .i64 0] 28)).alloc (by simp) (.cells #[.slice none 0 0] 94)
  rw [show (w.alloc (.cells #[.int .i64 0, .slice none 0 0, .int .i64 0] 28)).heap.size = w.heap.size + 1 by simp] at hbx
  have hbd : Bd ((w.alloc (.cells #[.int .i64 0, .slice none 0 0, .int .i64 0] 28)).alloc (.cells #[.slice none 0 0] 94)) (w.heap.size + 1) [] := ⟨_, hbx, rfl, .inl ⟨rfl, rfl⟩⟩
  have CB := Lib.hid (build_any T L.toNat (w.heap.size + 1) (by omega) L.toNat 0 [] _ (tbS T (2 ^ L.toNat)) (Nat.le_refl _) (by show (tbB T (2 ^ L.toNat)).toArray.size = _; rw [List.size_toArray, tbB_len]) (fun j hj => by
    show ((tbB T (2 ^ L.toNat)).toArray.toList)[j]? = _
    simp only [tbB, List.getElem?_map, List.getElem?_range hj, Option.map_some, Nat.zero_mul, Nat.zero_add]) (by simp; omega) hbd)
  rw [show ((L.toNat - L.toNat : Nat) : Int) = 0 by omega] at CB
  unfold BdPost at CB
  generalize tbS T (2 ^ L.toNat) = S at CB ⊢
  generalize Dg.bld T L.toNat L.toNat 0 [] = R at CB ⊢
  obtain ⟨r, ns⟩ := R
  dsimp only at CB ⊢
  clear hbd
  go_enter Try.func41, Try.ntmps41
  go_upto_region 3 with (go_at_call 66; refine CB.out.mono ?_; rintro e w1 ⟨rfl, hb1, hbe1⟩)
  obtain ⟨v1, hx1, hown1⟩ := hb1
  obtain ⟨g1, m1, c1, rfl⟩ := own_slice hown1
  obtain ⟨rfl, hI⟩ := own3_ints hown1
  have hR1 := hRx.below hbe1 (by omega)
  have hB1 := hB.trans (hbe1.mono (by omega))
  have HI := Lib.hid (hI.keep (.set w1 (H := w.heap.size) (show w.heap.size < w.heap.size + 1 + 1 by omega) 0 (.int .i64 L)))
  have HI0 := Lib.hid hI
  clear hown1 hI hbe1 hRx hbx hB CB
  have k0 := hx1.cell 0
  obtain ⟨n0, n1, n2, f0, f1, f2⟩ := hR1.three
  go_wp2_with fail
  have hR5 : Box _ w.heap.size 28 #[.int .i64 L, .slice g1 ns.length c1, .int .i64 (r : Nat)] := ((hR1.set 0 (.int .i64 L)).set 1 (.slice g1 ns.length c1)).set 2 (.int .i64 (r : Nat))
  obtain ⟨l0, l1, l2⟩ := hR5.trio
  refine bodyPost_ret (v := dgV L g1 ns.length c1 (r : Nat)) (by simp [results, Try.results41, go_sem, l0, l1, l2]; done) rfl ⟨⟨g1, c1, rfl, ?_⟩, ?_⟩
  · exact (((HI0.out.keep (.set _ (show w.heap.size < w.heap.size + 1 + 1 by omega) _ _)).keep (.set _ (show w.heap.size < w.heap.size + 1 + 1 by omega) _ _)).keep (.set _ (show w.heap.size < w.heap.size + 1 + 1 by omega) _ _)).low (by omega)
  · exact ((hB1.setCell (p := ⟨_, 0, none⟩) (Nat.le_refl w.heap.size) _).setCell (p := ⟨_, 1, none⟩) (Nat.le_refl w.heap.size) _).setCell (p := ⟨_, 2, none⟩) (Nat.le_refl w.heap.size) _

theorem nds_iff {n : Nat} {f : Nat → Int} {ns : List Dg.Nd} {L : Int} (hs : ShpI L n f) : NdsEq n ns.length f (nf ns) ↔ ns = ndl n f := by
  constructor
  · rintro ⟨h1, h2⟩
    apply List.ext_getElem
    · rw [ndl_len, h1]
    · intro k hk1 hk2
      obtain ⟨n0, n1, n2⟩ := nf_at ns hk1
      obtain ⟨e0, e1, e2⟩ := h2 k (by omega)
      rw [n0] at e0
      rw [n1] at e1
      rw [n2] at e2
      simp only [ndl, List.getElem_map, List.getElem_range]
      rw [e0, e1, e2]
      simp
  · intro h
    have hl : ns.length = n := by rw [h, ndl_len]
    refine ⟨hl.symm, fun j hj => ?_⟩
    obtain ⟨n0, n1, n2⟩ := nf_at ns (show j < ns.length by omega)
    obtain ⟨⟨a1, _⟩, ⟨b1, _⟩, ⟨c1, _⟩, _⟩ := hs j hj
    have hx : ns[j]'(by omega) = ((f (j * 3)).toNat, (f (j * 3 + 1)).toNat, (f (j * 3 + 2)).toNat) := by
      subst h
      simp [ndl]
    rw [n0, n1, n2, hx]
    simp only
    omega

theorem Yd.is {p : Prop} {w w' : World} {e : Ending} (hp : p) (h : Yd p w e w') : e = .returned (.bool true) ∧ Below w.heap.size w w' := by
  obtain ⟨r, rfl, hr, hb⟩ := h
  exact ⟨by rw [hr.out.2 hp], hb⟩
theorem Yd.isnt {p : Prop} {w w' : World} {e : Ending} (hp : ¬ p) (h : Yd p w e w') : e = .returned (.bool false) ∧ Below w.heap.size w w' := by
  obtain ⟨r, rfl, hr, hb⟩ := h
  cases r with
  | false => exact ⟨rfl, hb⟩
  | true => exact absurd (hr.out.1 rfl) hp

end Go.Proofs.Ytamjfcckgeakfaa
