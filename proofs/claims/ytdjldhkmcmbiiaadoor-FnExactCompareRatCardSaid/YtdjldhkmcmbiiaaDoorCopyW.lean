/-
  The program's copies of a number: a clone, and one filled up with leading zeros.
-/
import Derived.Test.YtdjldhkmcmbiiaaDoorDivWord
import Derived.Test.YtdjldhkmcmbiiaaDoorDiv
import Derived.Laws.CopyOwn
import Derived.Lib.LazyBuf
namespace Go.Proofs.YtdjldhkmcmbiiaaDoor
open Go.RowKit Num

theorem own_whole {w : World} {base g : Nat} {t : TypeId} {n : Nat} {xs : List Value} (h : w.ownsRow base t 1 (.slice (some ⟨g, 0, none⟩) n n) n xs) : w.heap[g]? = some (.cells xs.toArray t (0, 0)) := by
  obtain ⟨h1, h2⟩ := h
  rcases h2 with ⟨h2, _⟩ | ⟨g', cap', cur, hv, _, hh, _, _, hs, ht⟩
  · cases h2
  · injection hv with hv _ hc
    injection hv with hv
    injection hv with hv
    subst hv hc
    rw [List.take_of_length_le (by rw [Array.length_toList, hs]; omega)] at ht
    rw [hh, ← ht]

theorem rowW_whole {w : World} {g : Nat} {t : TypeId} {xs : List Nat} (h : w.heap[g]? = some (.cells (xs.map fun x => Value.int .u64 (x : Nat)).toArray t (0, 0))) : RowW t w g 0 xs :=
  ⟨_, h, fun j hj => by rw [Nat.zero_add]; simp [List.getD, hj]⟩

theorem splice_pad (L x : Nat) (_h : ln WB x ≤ L) : splice ((List.replicate L 0).map fun x => Value.int .u64 (x : Nat)) 0 ((digs WB x).map fun x => Value.int .u64 (x : Nat)) = (pad WB L x).map fun x => Value.int .u64 (x : Nat) := by
  unfold splice pad
  simp [length_digs]

theorem Tryd.size_u64 : (Tryd.prog.info? 94).map (·.size) = some 1 := by kernel_rfl

theorem digs_cell {w : World} {A1 : Option Addr} {n c x : Nat} {t : TypeId} (h : Nums t .u64 WB w (.slice A1 n c) x) (hn : n = ln WB x) (h0 : 0 < ((digs WB x).map fun x => Value.int .u64 (x : Nat)).length) :
    ∃ ad, A1 = some ad ∧ ∀ j v, ((digs WB x).map fun x => Value.int .u64 (x : Nat))[j]? = some v → w.cell? (ad.add j) = some v := by
  rw [List.length_map, length_digs, ← hn] at h0
  obtain ⟨g, off, cap, hv, _, _, hr⟩ := h.row (by rw [← hn]; exact h0)
  injection hv with hv
  refine ⟨_, hv, fun j v hj => ?_⟩
  rw [List.getElem?_map] at hj
  have hl : j < (digs WB x).length := by
    apply Nat.lt_of_not_le
    intro hle
    rw [List.getElem?_eq_none hle] at hj
    cases hj
  rw [List.getElem?_eq_getElem hl] at hj
  have hj' : v = .int .u64 ((digs WB x)[j] : Nat) := (Option.some.inj hj).symm
  have e : (⟨g, off, none⟩ : Addr).add j = ⟨g, off + j, none⟩ := by unfold Addr.add; split <;> simp_all
  rw [e, hr.cell hl, hj', getD_eq _ _ hl]

set_option maxRecDepth 100000 in
set_option maxHeartbeats 800000 in
theorem padW_more (A1 : Option Addr) (n ca L x : Nat) (w : World) (ha : Nums 94 .u64 WB w (.slice A1 n ca) x) (hn : n = ln WB x) (hL : n < L) (hLb : L ≤ 2199023255552) :
    Calls Tryd.prog 119 #[.slice A1 n ca, .int .i64 (L : Nat)] w fun e w' => e = .returned (.slice (some ⟨w.heap.size, 0, none⟩) L L) ∧ RowW 94 w' w.heap.size 0 (pad WB L x) ∧ Below w.heap.size w w' := by
  obtain ⟨i0, hi, hz0, hz1, hz2⟩ := info_parts Tryd.info_u64p
  have Ha := Lib.hid ha; clear ha
  have Hn := Lib.hid hn; clear hn
  go_enter Tryd.func119, Tryd.ntmps119
  go_wp2_with (at_make; refine wpList_make_full _ rfl _ _ 45 rfl w.heap.size 94 i0 (.int .u64 0) 1 Tryd.underlying45 hi hz0 hz1 _ _ _ _ L rfl rfl (by omega) (by omega) ?b2 ?b3 (Nat.le_refl _) ?_)
  case b2 => rw [hz2]; omega
  case b3 => unfold maxLen; omega
  intro w0 hown0 hgrow0
  have hw0 := own_whole (made_own hown0)
  have hbel0 : Below w.heap.size w w0 := (Below.refl _ _).grown hgrow0 (Nat.le_refl _) (fun k h => by cases h)
  have Hc := Lib.hid (digs_cell (Ha.out.below hbel0 (Nat.le_refl _)) Hn.out)
  have Hw0 := Lib.hid hw0
  have Hbel0 := Lib.hid hbel0
  clear hown0 hgrow0 hw0 hbel0
  go_wp2_with (with_reducible refine wpList_copy_splice rfl (.tmp 13) (.tmp 14) 45 45 rfl 94 Tryd.underlying45 Tryd.size_u64 (some ⟨w.heap.size, 0, none⟩) A1 L L n ca rfl rfl w.heap.size 0 ((List.replicate L 0).map fun x => Value.int .u64 (x : Nat)) 94 Hw0.out ((digs WB x).map fun x => Value.int .u64 (x : Nat)) ?c1 ?c2 ?c3 ?c4 w.heap.size w Hbel0.out (Nat.le_refl _) ?_)
  case c1 => rw [List.length_map, length_digs, ← Hn.out]; exact (Nat.min_eq_left (Nat.le_of_lt hL)).symm
  case c2 => exact fun h0 => by simpa using Hc.out (by simpa using h0)
  case c3 => simp [length_digs, ← Hn.out]; omega
  case c4 => intro v hv; obtain ⟨y, _, rfl⟩ := List.mem_map.1 hv; rfl
  intro w1 hw1 hb1
  go_wp2_with fail
  go_ret
  refine ⟨rfl, rowW_whole ?_, hb1⟩
  rw [← splice_pad L x (by rw [← Hn.out]; omega)]
  have h1 := hw1.out
  simpa using h1

set_option maxRecDepth 100000 in
set_option maxHeartbeats 800000 in
theorem clone_any (A1 : Option Addr) (n ca x : Nat) (w : World) (ha : Nums 94 .u64 WB w (.slice A1 n ca) x) (hn : n = ln WB x) (h0 : 0 < n) (hnb : n ≤ 1099511627776) :
    Calls Tryd.prog 118 #[.slice A1 n ca] w fun e w' => (∃ g cap, e = .returned (.slice (some ⟨g, 0, none⟩) n cap) ∧ n ≤ cap ∧ cap ≤ maxLen ∧ w.heap.size ≤ g ∧ RowW 94 w' g 0 (digs WB x)) ∧ Below w.heap.size w w' := by
  obtain ⟨i0, hi, hz0, hz1, hz2⟩ := info_parts Tryd.info_u64p
  obtain ⟨b, off, rfl, hc⟩ := ha.get hn h0
  clear hc
  have Ha := Lib.hid ha; clear ha
  have Hn := Lib.hid hn; clear hn
  go_enter Tryd.func118, Tryd.ntmps118
  have hA : RowF 94 .u64 (w.alloc (.cells #[] 94)) (.slice (some ⟨b, off, none⟩) n ca) n (dg WB x) := by
    have := Ha.out.below ((Below.refl w.heap.size w).alloc (Nat.le_refl _) (.cells #[] 94)) (Nat.le_refl _)
    unfold Nums at this
    rw [← Hn.out] at this
    exact this
  have hlit : (w.alloc (.cells #[] 94)).ownsRow w.heap.size 94 1 (.slice (some ⟨w.heap.size, 0, none⟩) 0 0) 0 [] := World.ownsRow_lit w #[] 0 (Nat.le_refl _) (by unfold maxLen; omega) (by simp)
  have HA := Lib.hid hA; clear hA
  have Hlit := Lib.hid hlit; clear hlit
  have hm : 0 + n ≤ maxLen := by unfold maxLen; omega
  have hnil : ∀ W, (binOp .eql 45 (.slice (some ⟨b, off, none⟩) n ca) (.slice none 0 0)).run Tryd.prog W = .ok (.bool false) W := fun W => by
    have := Lib.run_eql_slice_nil (P := Tryd.prog) (w := W) (t := 45) (e := 94) (a := some ⟨b, off, none⟩) (n := n) (c := ca) (n' := 0) (c' := 0) (h := Tryd.underlying45)
    exact this
  go_wp2_with (at_builtin; refine wpList_append_rowF rfl _ _ 45 rfl w.heap.size 94 i0 (.int .u64 0) 8 Tryd.underlying45 hi hz0 hz1 hz2 rfl _ 0 _ rfl Hlit.out .u64 (.slice (some ⟨b, off, none⟩) n ca) n (dg WB x) rfl HA.out hm (by omega) (by simp) ?_; intro v1 w1 hown1 hgrow1)
  go_ret
  have hb1 := built_below hgrow1
  rw [List.nil_append, Nat.zero_add] at hown1
  have e1 : cellsOf .u64 (dg WB x) n = (digs WB x).map fun x => Value.int .u64 (x : Nat) := by rw [Hn.out]; exact cellsOf_digs .u64 WB x
  rw [e1] at hown1
  obtain ⟨g, cap, hv, hcap, hge, hrow⟩ : ∃ g cap, v1 = .slice (some ⟨g, 0, none⟩) n cap ∧ (n ≤ cap ∧ cap ≤ maxLen) ∧ w.heap.size ≤ g ∧ RowW 94 w1 g 0 (digs WB x) := by
    rcases hown1.2 with ⟨_, h5⟩ | ⟨g, cap, cur, hv, h5, h6, h7, h8, _⟩
    · omega
    · subst hv
      exact ⟨g, cap, rfl, ⟨h7, h8⟩, h5, own_rowW hown1⟩
  subst hv
  exact ⟨⟨g, cap, rfl, hcap.1, hcap.2, hge, hrow⟩, hb1⟩

end Go.Proofs.YtdjldhkmcmbiiaaDoor
