/-
  Several texts in one: PGcd, PNat.
-/
import Derived.Test.YtbcckgofoknmbaaDoorPDiv
import Derived.Test.YtbcckgofoknmbaaDoorM2
import Derived.Laws.CopyOwn
import Derived.Lib.LazyBuf
import Derived.Test.YtbcckgofoknmbaaDoorApplies
import Derived.Test.YtbcckgofoknmbaaDoorPWord
import Derived.Deep.DeepCutAuto
import Derived.Deep.RegionWith
/-
  Several texts in one: CopyW, GcdHelp, GcdN.
-/
/-
  The program's copies of a number: a clone, and one filled up with leading zeros.
-/
namespace Go.Proofs.YtbcckgofoknmbaaDoor
open Go.RowKit Num

theorem own_whole {w : World} {base g : Nat} {t : TypeId} {n : Nat} {xs : List Value} (h : w.ownsRow base t 1 (.slice (some ⟨g, 0, none⟩) n n) n xs) : w.heap[g]? = some (.cells xs.toArray t (0, 0)) := by
  obtain ⟨h1, h2⟩ := h
  rcases h2 with ⟨h2, _⟩ | ⟨g', cap', cur, hv, _, hh, _, _, hs, ht⟩
  · cases h2
  · injection hv with hv _ hc
    injection hv with hv
    injection hv with hv
    subst hv hc
    rw [List.take_of_length_le (by rw [Array.length_toList, hs]; omega)] at ht
    rw [hh, ← ht]

theorem rowW_whole {w : World} {g : Nat} {t : TypeId} {xs : List Nat} (h : w.heap[g]? = some (.cells (xs.map fun x => Value.int .u64 (x : Nat)).toArray t (0, 0))) : RowW t w g 0 xs :=
  ⟨_, h, fun j hj => by rw [Nat.zero_add]; simp [List.getD, hj]⟩

theorem splice_pad (L x : Nat) (_h : ln WB x ≤ L) : splice ((List.replicate L 0).map fun x => Value.int .u64 (x : Nat)) 0 ((digs WB x).map fun x => Value.int .u64 (x : Nat)) = (pad WB L x).map fun x => Value.int .u64 (x : Nat) := by
  unfold splice pad
  simp [length_digs]

theorem Tryd.size_u64 : (Tryd.prog.info? 64).map (·.size) = some 1 := by kernel_rfl

theorem digs_cell {w : World} {A1 : Option Addr} {n c x : Nat} {t : TypeId} (h : Nums t .u64 WB w (.slice A1 n c) x) (hn : n = ln WB x) (h0 : 0 < ((digs WB x).map fun x => Value.int .u64 (x : Nat)).length) :
    ∃ ad, A1 = some ad ∧ ∀ j v, ((digs WB x).map fun x => Value.int .u64 (x : Nat))[j]? = some v → w.cell? (ad.add j) = some v := by
  rw [List.length_map, length_digs, ← hn] at h0
  obtain ⟨g, off, cap, hv, _, _, hr⟩ := h.row (by rw [← hn]; exact h0)
  injection hv with hv
  refine ⟨_, hv, fun j v hj => ?_⟩
  rw [List.getElem?_map] at hj
  have hl : j < (digs WB x).length := by
    apply Nat.lt_of_not_le
    intro hle
    rw [List.getElem?_eq_none hle] at hj
    cases hj
  rw [List.getElem?_eq_getElem hl] at hj
  have hj' : v = .int .u64 ((digs WB x)[j] : Nat) := (Option.some.inj hj).symm
  have e : (⟨g, off, none⟩ : Addr).add j = ⟨g, off + j, none⟩ := by unfold Addr.add; split <;> simp_all
  rw [e, hr.cell hl, hj', getD_eq _ _ hl]

set_option maxRecDepth 100000 in
set_option maxHeartbeats 800000 in
theorem padW_more (A1 : Option Addr) (n ca L x : Nat) (w : World) (ha : Nums 64 .u64 WB w (.slice A1 n ca) x) (hn : n = ln WB x) (hL : n < L) (hLb : L ≤ 2199023255552) :
    Calls Tryd.prog 55 #[.slice A1 n ca, .int .i64 (L : Nat)] w fun e w' => e = .returned (.slice (some ⟨w.heap.size, 0, none⟩) L L) ∧ RowW 64 w' w.heap.size 0 (pad WB L x) ∧ Below w.heap.size w w' := by
  obtain ⟨i0, hi, hz0, hz1, hz2⟩ := info_parts Tryd.info_u64p
  have Ha := Lib.hid ha; clear ha
  have Hn := Lib.hid hn; clear hn
  go_enter Tryd.func55, Tryd.ntmps55
  go_wp2_with (at_make; refine wpList_make_full _ rfl _ _ 41 rfl w.heap.size 64 i0 (.int .u64 0) 1 Tryd.underlying41 hi hz0 hz1 _ _ _ _ L rfl rfl (by omega) (by omega) ?b2 ?b3 (Nat.le_refl _) ?_)
  case b2 => rw [hz2]; omega
  case b3 => unfold maxLen; omega
  intro w0 hown0 hgrow0
  have hw0 := own_whole (made_own hown0)
  have hbel0 : Below w.heap.size w w0 := (Below.refl _ _).grown hgrow0 (Nat.le_refl _) (fun k h => by cases h)
  have Hc := Lib.hid (digs_cell (Ha.out.below hbel0 (Nat.le_refl _)) Hn.out)
  have Hw0 := Lib.hid hw0
  have Hbel0 := Lib.hid hbel0
  clear hown0 hgrow0 hw0 hbel0
  go_wp2_with (with_reducible refine wpList_copy_splice rfl (.tmp 13) (.tmp 14) 41 41 rfl 64 Tryd.underlying41 Tryd.size_u64 (some ⟨w.heap.size, 0, none⟩) A1 L L n ca rfl rfl w.heap.size 0 ((List.replicate L 0).map fun x => Value.int .u64 (x : Nat)) 64 Hw0.out ((digs WB x).map fun x => Value.int .u64 (x : Nat)) ?c1 ?c2 ?c3 ?c4 w.heap.size w Hbel0.out (Nat.le_refl _) ?_)
  case c1 => rw [List.length_map, length_digs, ← Hn.out]; exact (Nat.min_eq_left (Nat.le_of_lt hL)).symm
  case c2 => exact fun h0 => by simpa using Hc.out (by simpa using h0)
  case c3 => simp [length_digs, ← Hn.out]; omega
  case c4 => intro v hv; obtain ⟨y, _, rfl⟩ := List.mem_map.1 hv; rfl
  intro w1 hw1 hb1
  go_wp2_with fail
  go_ret
  refine ⟨rfl, rowW_whole ?_, hb1⟩
  rw [← splice_pad L x (by rw [← Hn.out]; omega)]
  have h1 := hw1.out
  simpa using h1

set_option maxRecDepth 100000 in
set_option maxHeartbeats 800000 in
theorem clone_any (A1 : Option Addr) (n ca x : Nat) (w : World) (ha : Nums 64 .u64 WB w (.slice A1 n ca) x) (hn : n = ln WB x) (h0 : 0 < n) (hnb : n ≤ 1099511627776) :
    Calls Tryd.prog 52 #[.slice A1 n ca] w fun e w' => (∃ g cap, e = .returned (.slice (some ⟨g, 0, none⟩) n cap) ∧ n ≤ cap ∧ cap ≤ maxLen ∧ w.heap.size ≤ g ∧ RowW 64 w' g 0 (digs WB x)) ∧ Below w.heap.size w w' := by
  obtain ⟨i0, hi, hz0, hz1, hz2⟩ := info_parts Tryd.info_u64p
  obtain ⟨b, off, rfl, hc⟩ := ha.get hn h0
  clear hc
  have Ha := Lib.hid ha; clear ha
  have Hn := Lib.hid hn; clear hn
  go_enter Tryd.func52, Tryd.ntmps52
  have hA : RowF 64 .u64 (w.alloc (.cells #[] 64)) (.slice (some ⟨b, off, none⟩) n ca) n (dg WB x) := by
    have := Ha.out.below ((Below.refl w.heap.size w).alloc (Nat.le_refl _) (.cells #[] 64)) (Nat.le_refl _)
    unfold Nums at this
    rw [← Hn.out] at this
    exact this
  have hlit : (w.alloc (.cells #[] 64)).ownsRow w.heap.size 64 1 (.slice (some ⟨w.heap.size, 0, none⟩) 0 0) 0 [] := World.ownsRow_lit w #[] 0 (Nat.le_refl _) (by unfold maxLen; omega) (by simp)
  have HA := Lib.hid hA; clear hA
  have Hlit := Lib.hid hlit; clear hlit
  have hm : 0 + n ≤ maxLen := by unfold maxLen; omega
  have hnil : ∀ W, (binOp .eql 41 (.slice (some ⟨b, off, none⟩) n ca) (.slice none 0 0)).run Tryd.prog W = .ok (.bool false) W := fun W => by
    have := Lib.run_eql_slice_nil (P := Tryd.prog) (w := W) (t := 41) (e := 64) (a := some ⟨b, off, none⟩) (n := n) (c := ca) (n' := 0) (c' := 0) (h := Tryd.underlying41)
    exact this
  go_wp2_with (at_builtin; refine wpList_append_rowF rfl _ _ 41 rfl w.heap.size 64 i0 (.int .u64 0) 8 Tryd.underlying41 hi hz0 hz1 hz2 rfl _ 0 _ rfl Hlit.out .u64 (.slice (some ⟨b, off, none⟩) n ca) n (dg WB x) rfl HA.out hm (by omega) (by simp) ?_; intro v1 w1 hown1 hgrow1)
  go_ret
  have hb1 := built_below hgrow1
  rw [List.nil_append, Nat.zero_add] at hown1
  have e1 : cellsOf .u64 (dg WB x) n = (digs WB x).map fun x => Value.int .u64 (x : Nat) := by rw [Hn.out]; exact cellsOf_digs .u64 WB x
  rw [e1] at hown1
  obtain ⟨g, cap, hv, hcap, hge, hrow⟩ : ∃ g cap, v1 = .slice (some ⟨g, 0, none⟩) n cap ∧ (n ≤ cap ∧ cap ≤ maxLen) ∧ w.heap.size ≤ g ∧ RowW 64 w1 g 0 (digs WB x) := by
    rcases hown1.2 with ⟨_, h5⟩ | ⟨g, cap, cur, hv, h5, h6, h7, h8, _⟩
    · omega
    · subst hv
      exact ⟨g, cap, rfl, ⟨h7, h8⟩, h5, own_rowW hown1⟩
  subst hv
  exact ⟨⟨g, cap, rfl, hcap.1, hcap.2, hge, hrow⟩, hb1⟩

end Go.Proofs.YtbcckgofoknmbaaDoor
/-
  What the loop of the program's greatest common divisor asks of its callees: padding and applying, each in one contract.
-/
namespace Go.Proofs.YtbcckgofoknmbaaDoor
open Go.RowKit Num

/-- A row of n words that says x, at the head of a slice value that lies in block g. -/
def Says (w : World) (v : Value) (g n x : Nat) : Prop :=
  ∃ off cap zs, v = .slice (some ⟨g, off, none⟩) n cap ∧ n ≤ cap ∧ cap ≤ maxLen ∧ zs.length = n ∧ Dig WB zs ∧ val WB zs = x ∧ RowW 64 w g off zs

theorem Nums.says {w : World} {v : Value} {x g : Nat} (h : Nums 64 .u64 WB w v x) (h0 : 0 < ln WB x) (hg : v.ownBlock = some g) : Says w v g (ln WB x) x := by
  obtain ⟨g', off, cap, rfl, h1, h2, h3⟩ := h.row h0
  have : g' = g := by simpa [Value.ownBlock] using hg
  subst this
  exact ⟨off, cap, digs WB x, rfl, h1, h2, length_digs _ _, dig_digs WB WB_two x, val_digs WB WB_two x, h3⟩

theorem Says.below {w w' : World} {v : Value} {g n x B : Nat} (h : Says w v g n x) (hb : Below B w w') (hg : g < B) : Says w' v g n x := by
  obtain ⟨off, cap, zs, h1, h2, h3, h4, h5, h6, h7⟩ := h
  exact ⟨off, cap, zs, h1, h2, h3, h4, h5, h6, h7.below hb hg⟩

theorem Says.lt {w : World} {v : Value} {g n x : Nat} (h : Says w v g n x) : g < w.heap.size := by
  obtain ⟨off, cap, zs, h1, h2, h3, h4, h5, h6, h7⟩ := h
  exact h7.lt

/-- Trimming such a row. -/
theorem trim_says (w : World) (v : Value) (g n x : Nat) (h : Says w v g n x) :
    Calls Tryd.prog 53 #[v] w fun e w' => (∃ v', e = .returned v' ∧ Nums 64 .u64 WB w v' x ∧ v'.ownBlock = some g) ∧ w = w' := by
  obtain ⟨off, cap, zs, rfl, h2, h3, h4, h5, h6, h7⟩ := h
  have hr := h7.rowF (cap := cap) (by omega) h3
  rw [h4] at hr
  refine (trimW_at (.slice (some ⟨g, off, none⟩) n cap) zs w h5 (by rw [h4]; exact hr)).mono ?_
  rintro e w' ⟨⟨v', he, hn, ho⟩, hw⟩
  rw [h6] at hn
  exact ⟨⟨v', he, hn, ho⟩, hw⟩

theorem pad_says (w : World) (v : Value) (g L x : Nat) (h : Nums 64 .u64 WB w v x) (h0 : 0 < ln WB x) (hg : v.ownBlock = some g) (hL : ln WB x ≤ L) (hLb : L ≤ 2199023255552) :
    Calls Tryd.prog 55 #[v, .int .i64 (L : Nat)] w fun e w' => (∃ v' g', e = .returned v' ∧ Says w' v' g' L x ∧ (g' = g ∨ g' = w.heap.size)) ∧ Below w.heap.size w w' := by
  have hs := h.says h0 hg
  by_cases he : ln WB x = L
  · obtain ⟨off, cap, zs, rfl, hrest⟩ := hs
    subst he
    refine (padW_same _ _ _ _).mono ?_
    rintro e w' ⟨rfl, rfl⟩
    exact ⟨⟨_, g, rfl, ⟨off, cap, zs, rfl, hrest⟩, .inl rfl⟩, Below.refl _ _⟩
  · obtain ⟨A1, ca, rfl, _, _, _⟩ := RowF.open h
    refine (padW_more A1 _ ca L x w h rfl (by omega) hLb).mono ?_
    rintro e w' ⟨rfl, hr, hb⟩
    exact ⟨⟨_, w.heap.size, rfl, ⟨0, L, pad WB L x, rfl, Nat.le_refl _, by unfold maxLen; omega, pad_len WB L x hL, pad_dig WB L x WB_two, pad_val WB L x WB_two, hr⟩, .inr rfl⟩, hb⟩

theorem lead_says (w : World) (va vb : Value) (ga gb n m x y : Nat) (hm : n = m + 2) (hn : n ≤ 1099511627776) (ha : Says w va ga n x) (hb : Says w vb gb n y) (hle : y ≤ x) (htop : WB ^ (n - 1) ≤ x) :
    Calls Tryd.prog 56 #[va, vb] w fun e w' =>
      (∃ (u0 v0 u1 v1 : Nat) (neg : Bool), e = .returned (.agg #[.int .u64 (u0 : Nat), .int .u64 (v0 : Nat), .int .u64 (u1 : Nat), .int .u64 (v1 : Nat), .bool neg]) ∧ u0 < WB ∧ v0 < WB ∧ u1 < WB ∧ v1 < WB ∧ (v0 ≠ 0 → LehmOut x y neg u0 v0 u1 v1)) ∧ Below w.heap.size w w' := by
  obtain ⟨oa, ca, xs, rfl, _, _, a4, a5, a6, a7⟩ := ha
  obtain ⟨ob, cb, ys, rfl, _, _, b4, b5, b6, b7⟩ := hb
  have := lead_any ga oa ca gb ob cb n m xs ys w hm hn a7 b7 a4 b4 a5 b5 (by rw [a6, b6]; exact hle) (by rw [a6]; exact htop)
  rw [a6, b6] at this
  exact this

theorem apply_says (w : World) (va vb : Value) (ga gb n x y u0 v0 u1 v1 : Nat) (neg : Bool) (hn : n ≤ 1099511627776) (ha : Says w va ga n x) (hb : Says w vb gb n y) (hne : ga ≠ gb) (h1 : u0 < WB) (h2 : v0 < WB) (h3 : u1 < WB) (h4 : v1 < WB) (hle : y ≤ x) (hout : LehmOut x y neg u0 v0 u1 v1) :
    Calls Tryd.prog 57 #[.agg #[.int .u64 (u0 : Nat), .int .u64 (v0 : Nat), .int .u64 (u1 : Nat), .int .u64 (v1 : Nat), .bool neg], va, vb] w fun e w' =>
      (∃ r x' y', e = .returned r ∧ Says w' va ga n x' ∧ Says w' vb gb n y' ∧ y' < x' ∧ x' ≤ y ∧ Nat.gcd x' y' = Nat.gcd x y) ∧ (∀ B, B ≤ ga → B ≤ gb → Below B w w') := by
  obtain ⟨oa, ca, xs, rfl, k1, k2, a4, a5, a6, a7⟩ := ha
  obtain ⟨ob, cb, ys, rfl, k3, k4, b4, b5, b6, b7⟩ := hb
  obtain ⟨x', y', hlin, o1, o2, o3⟩ := hout
  have hxn : x < WB ^ n := by have := val_lt WB xs a5; rwa [a4, a6] at this
  subst a6 b6
  cases neg with
  | true =>
    simp only [if_true] at hlin
    refine (apply_swapped ga oa ca gb ob cb n xs ys u0 v0 u1 v1 x' y' w hn a7 b7 hne a4 b4 a5 b5 h1 h2 h3 h4 hlin.1 hlin.2 (by omega) (by omega)).mono ?_
    rintro e w' ⟨⟨r, az, bz, he, c1, c2, c3, c4, c5, c6, c7, c8⟩, hbl⟩
    exact ⟨⟨r, x', y', he, ⟨oa, ca, az, rfl, k1, k2, c1, c3, c5, c7⟩, ⟨ob, cb, bz, rfl, k3, k4, c2, c4, c6, c8⟩, o1, o2, o3⟩, hbl⟩
  | false =>
    simp only [Bool.false_eq_true, if_false] at hlin
    refine (apply_plain ga oa ca gb ob cb n xs ys u0 v0 u1 v1 x' y' w hn a7 b7 hne a4 b4 a5 b5 h1 h2 h3 h4 hlin.1 hlin.2 (by omega) (by omega)).mono ?_
    rintro e w' ⟨⟨r, az, bz, he, c1, c2, c3, c4, c5, c6, c7, c8⟩, hbl⟩
    exact ⟨⟨r, x', y', he, ⟨oa, ca, az, rfl, k1, k2, c1, c3, c5, c7⟩, ⟨ob, cb, bz, rfl, k3, k4, c2, c4, c6, c8⟩, o1, o2, o3⟩, hbl⟩

theorem clone_says (w : World) (v : Value) (x : Nat) (h : Nums 64 .u64 WB w v x) (h0 : 0 < ln WB x) (hlx : ln WB x ≤ 1099511627776) :
    Calls Tryd.prog 52 #[v] w fun e w' => (∃ v' g, e = .returned v' ∧ Nums 64 .u64 WB w' v' x ∧ v'.ownBlock = some g ∧ w.heap.size ≤ g ∧ g < w'.heap.size) ∧ Below w.heap.size w w' := by
  obtain ⟨A1, ca, rfl, _, _, _⟩ := RowF.open h
  refine (clone_any A1 _ ca x w h rfl h0 hlx).mono ?_
  rintro e w' ⟨⟨g, cap, rfl, h1, h2, h3, h4⟩, hb⟩
  exact ⟨⟨_, g, rfl, h4.rowF (by rw [length_digs]; exact h1) h2, rfl, h3, h4.lt⟩, hb⟩

end Go.Proofs.YtbcckgofoknmbaaDoor
/-
  The program's greatest common divisor of two numbers: the loop.
-/
namespace Go.Proofs.YtbcckgofoknmbaaDoor
open Go.RowKit Num

/-- What the two numbers are at the head of the loop: as at the start but for common divisors, and the call's own rows while the smaller one has several words. -/
structure GcdAt (w0 wr : World) (va vb : Value) (G p q : Nat) : Prop where
  na : Nums 64 .u64 WB wr va p
  nb : Nums 64 .u64 WB wr vb q
  le : q ≤ p
  lp : ln WB p ≤ 549755813888
  g : Nat.gcd p q = G
  bel : Below w0.heap.size w0 wr
  own : 1 < ln WB q → ∃ ga gb, va.ownBlock = some ga ∧ vb.ownBlock = some gb ∧ w0.heap.size ≤ ga ∧ w0.heap.size ≤ gb ∧ ga ≠ gb

theorem Nums.block_lt {w : World} {v : Value} {x g : Nat} (h : Nums 64 .u64 WB w v x) (h0 : 0 < ln WB x) (hg : v.ownBlock = some g) : g < w.heap.size := (h.says h0 hg).lt

set_option maxRecDepth 100000 in
set_option maxHeartbeats 3200000 in
theorem gcdNats_any (va vb : Value) (x y : Nat) (w : World) (ha : Nums 64 .u64 WB w va x) (hb : Nums 64 .u64 WB w vb y) (hT : Tab64 w) (hlx : ln WB x ≤ 549755813888) (hly : ln WB y ≤ 549755813888) :
    Calls Tryd.prog 38 #[va, vb] w fun e w' => (∃ v, e = .returned v ∧ Nums 64 .u64 WB w' v (Nat.gcd x y)) ∧ Below w.heap.size w w' := by
  have h2 := WB_two
  obtain ⟨G, hG⟩ : ∃ G, G = Nat.gcd x y := ⟨_, rfl⟩
  rw [← hG]
  obtain ⟨Aa, ca, rfl, _, _, _⟩ := RowF.open ha
  obtain ⟨Ab, cb, rfl, _, _, _⟩ := RowF.open hb
  have C1 := Lib.hid (cmpW_any _ _ x y w ha hb)
  have HA := Lib.hid ha; clear ha
  have HB := Lib.hid hb; clear hb
  have HG := Lib.hid hG; clear hG
  have HT := Lib.hid hT; clear hT
  go_enter Tryd.func38, Tryd.ntmps38
  go_upto_if 13 with (go_at_call 54; refine C1.out.mono ?_; rintro e w' ⟨rfl, nq, rfl⟩)
  go_cut [0, 1] (fun s0 s1 wx => ∃ p q : Nat, Nums 64 .u64 WB wx s0 p ∧ Nums 64 .u64 WB wx s1 q ∧ q ≤ p ∧ ln WB p ≤ 549755813888 ∧ Nat.gcd p q = G ∧ Below w.heap.size w wx)
  case first =>
    have hb' := below_drewN nq (Below.refl w.heap.size w)
    have Hb' := Lib.hid hb'; clear hb'
    by_cases hxy : x < y
    · have e1 : cmpI x y = -1 := by rw [cmpI, if_pos hxy]
      rw [e1]
      go_wp2_with fail
      go_meet
      exact ⟨y, x, HB.out.below Hb'.out (Nat.le_refl _), HA.out.below Hb'.out (Nat.le_refl _), Nat.le_of_lt hxy, hly, by rw [HG.out, Nat.gcd_comm], Hb'.out⟩
    · have e1 : 0 ≤ cmpI x y := by rw [cmpI, if_neg hxy]; split <;> omega
      obtain ⟨c, hc⟩ : ∃ c, c = cmpI x y := ⟨_, rfl⟩
      rw [← hc] at e1 ⊢
      clear hc
      go_wp2_with fail
      go_meet
      exact ⟨x, y, HA.out.below Hb'.out (Nat.le_refl _), HB.out.below Hb'.out (Nat.le_refl _), by omega, hlx, HG.out.symm, Hb'.out⟩
  case rest =>
    clear C1 HA HB HG
    obtain ⟨p, q, hp, hq, hqp, hlp, hg, hbel⟩ := hcut
    obtain ⟨Ap, cp, rfl, _, _, _⟩ := RowF.open hp
    obtain ⟨Aq, cq, rfl, _, _, _⟩ := RowF.open hq
    have Hp := Lib.hid hp; clear hp
    have Hq := Lib.hid hq; clear hq
    have Hg := Lib.hid hg; clear hg
    have Hbel := Lib.hid hbel; clear hbel
    have hlqp := ln_mono WB q p h2 hqp
    go_upto_if 18 with fail
    go_cut [0, 1] (fun s0 s1 wx => GcdAt w wx s0 s1 G p q)
    case first =>
      by_cases hl : 1 < ln WB q
      · go_wp2_with fail
        refine (clone_says _ _ p Hp.out (by omega) (by omega)).mono ?_
        rintro e w1 ⟨⟨v1, g1, rfl, hv1, ho1, hg1, hg1'⟩, hb1⟩
        have Hv1 := Lib.hid hv1; clear hv1
        have Ho1 := Lib.hid ho1; clear ho1
        have Hb1 := Lib.hid hb1; clear hb1
        go_wp2_with fail
        refine (clone_says _ _ q (Hq.out.below Hb1.out (Nat.le_refl _)) (by omega) (by omega)).mono ?_
        rintro e w2 ⟨⟨v2, g2, rfl, hv2, ho2, hg2, hg2'⟩, hb2⟩
        have hbb := Hbel.out.trans (Hb1.out.mono Hbel.out.size)
        have hbs := Hbel.out.size
        have hat : GcdAt w w2 v1 v2 G p q := ⟨Hv1.out.below hb2 (Nat.le_refl _), hv2, hqp, hlp, Hg.out, hbb.trans (hb2.mono hbb.size), fun _ => ⟨g1, g2, Ho1.out, ho2, by omega, by have := Hb1.out.size; omega, by omega⟩⟩
        have Hat := Lib.hid hat; clear hat hv2 ho2 hb2 hbb
        go_wp2_with fail
        go_meet
        exact Hat.out
      · have hat : GcdAt w wc (.slice Ap (ln WB p) cp) (.slice Aq (ln WB q) cq) G p q := ⟨Hp.out, Hq.out, hqp, hlp, Hg.out, Hbel.out, fun h => absurd h hl⟩
        have Hat := Lib.hid hat; clear hat
        go_wp2_with fail
        go_meet
        exact Hat.out
    case rest =>
      clear Hp Hq Hg Hbel hqp hlp hlqp
      have Hat0 := Lib.hid hcut; clear hcut
      go_wp2_with fail
      go_loopg [0, 1] q (fun q va vb wr => ∃ p : Nat, GcdAt w wr va vb G p q)
      case atStart => exact ⟨p, Hat0.out⟩
      case round =>
        clear Hat0
        obtain ⟨p, hat⟩ := hrel
        have hlqp := ln_mono WB gk p h2 hat.le
        have hlp := hat.lp
        obtain ⟨Ap, cp, rfl, _, _, _⟩ := RowF.open hat.na
        obtain ⟨Aq, cq, rfl, _, _, _⟩ := RowF.open hat.nb
        have Hat := Lib.hid hat; clear hat
        by_cases hl : 1 < ln WB gk
        · obtain ⟨ga, gb, oa, ob, hga, hgb, hne⟩ := Hat.out.own hl
          obtain ⟨lq, hlq⟩ : ∃ l, l = ln WB gk := ⟨_, rfl⟩
          obtain ⟨lp, hlpe⟩ : ∃ l, l = ln WB p := ⟨_, rfl⟩
          have C2 := Lib.hid (pad_says wr (.slice Aq (ln WB gk) cq) gb lp gk Hat.out.nb (by omega) ob (by omega) (by omega))
          rw [← hlq] at hl hlqp C2 ⊢
          rw [← hlpe] at hlp hlqp ⊢
          have hgalt : ga < wr.heap.size := Hat.out.na.block_lt (by rw [← hlpe]; omega) oa
          have hgblt : gb < wr.heap.size := Hat.out.nb.block_lt (by rw [← hlq]; omega) ob
          have hsa := Hat.out.na.says (by rw [← hlpe]; omega) oa
          rw [← hlpe] at hsa
          have htop : WB ^ (lp - 1) ≤ p := top_le WB p (lp - 1) h2 (by omega)
          have Hsa := Lib.hid hsa; clear hsa
          have Hlq := Lib.hid hlq; clear hlq
          have Hlpe := Lib.hid hlpe; clear hlpe
          have Htop := Lib.hid htop; clear htop
          have Hoa := Lib.hid oa; clear oa
          have Hob := Lib.hid ob; clear ob
          go_wp2_with fail
          refine C2.out.mono ?_
          rintro e w1 ⟨⟨v1, g1, rfl, hs1, hg1⟩, hb1⟩
          have hs1a : Says w1 (.slice Ap lp cp) ga lp p := Hsa.out.below hb1 hgalt
          have hneg1 : ga ≠ g1 := by rcases hg1 with rfl | rfl <;> omega
          have hg1w : w.heap.size ≤ g1 := by rcases hg1 with rfl | rfl; exact hgb; exact Hat.out.bel.size
          have C3 := Lib.hid (lead_says w1 (.slice Ap lp cp) v1 ga g1 lp (lp - 2) p gk (by omega) (by omega) hs1a hs1 Hat.out.le Htop.out)
          have Hs1 := Lib.hid hs1; clear hs1
          have Hs1a := Lib.hid hs1a; clear hs1a
          have Hb1 := Lib.hid hb1; clear hb1 hg1 C2
          go_wp2_with fail
          refine C3.out.mono ?_
          rintro e w2 ⟨⟨u0, v0, u1, v1', neg, rfl, k1, k2, k3, k4, hout⟩, hb2⟩
          have hb2' := (Hat.out.bel.trans (Hb1.out.mono Hat.out.bel.size))
          have hbel2 : Below w.heap.size w w2 := hb2'.trans (hb2.mono hb2'.size)
          have Hbel2 := Lib.hid hbel2
          have Hb2 := Lib.hid hb2
          have Hout := Lib.hid hout
          have HK := Lib.hid (And.intro k1 (And.intro k2 (And.intro k3 k4)))
          clear hb2' hbel2 hb2 hout k1 k2 k3 k4 C3
          have hbs : Below w1.heap.size w1 (w2.alloc (.cells #[.int .u64 (u0 : Nat), .int .u64 (v0 : Nat), .int .u64 (u1 : Nat), .int .u64 (v1' : Nat), .bool neg] 89)) := Hb2.out.alloc Hb2.out.size _
          have hsA := Hs1a.out.below hbs Hs1a.out.lt
          have hsB := Hs1.out.below hbs Hs1.out.lt
          have hbelS := Hbel2.out.alloc Hbel2.out.size (.cells #[.int .u64 (u0 : Nat), .int .u64 (v0 : Nat), .int .u64 (u1 : Nat), .int .u64 (v1' : Nat), .bool neg] 89)
          have HsA := Lib.hid hsA
          have HsB := Lib.hid hsB
          have HbelS := Lib.hid hbelS
          clear hbs hsA hsB hbelS
          by_cases hv0 : v0 = 0
          · subst hv0
            have C5 := Lib.hid (trim_says _ v1 g1 lp gk HsB.out)
            go_wp2_with fail
            refine C5.out.mono ?_
            rintro e w' ⟨⟨v2, rfl, hv2, ho2⟩, rfl⟩
            have C6 := Lib.hid (divNats_big (.slice Ap lp cp) v2 p gk (lq - 2) _ (by
              obtain ⟨_, _, _, e0, _⟩ := HsA.out
              have := Hat.out.na.below (Hb1.out.trans (Hb2.out.mono Hb1.out.size)) (Nat.le_refl _)
              rw [← Hlpe.out] at this
              exact this.below (Below.alloc (Below.refl w2.heap.size w2) (Nat.le_refl _) _) (Nat.le_refl _)) hv2 Hat.out.le (by rw [← Hlq.out]; omega) Hat.out.lp)
            have Hv2 := Lib.hid hv2; clear hv2
            have Ho2 := Lib.hid ho2; clear ho2 C5
            go_wp2_with fail
            refine C6.out.mono ?_
            rintro e w3 ⟨⟨v3, v4, rfl, hv3, hv4, hfr⟩, hb3⟩
            have hnew : GcdAt w w3 v2 v4 G gk (p % gk) := by
              have hgk0 : 0 < gk := Nat.pos_of_ne_zero fun e => by rw [Hlq.out, e, ln_zero] at hl; omega
              refine ⟨Hv2.out.below hb3 (Nat.le_refl _), hv4, Nat.le_of_lt (Nat.mod_lt _ hgk0), Nat.le_trans (ln_mono WB gk p h2 Hat.out.le) Hat.out.lp, ?_, HbelS.out.trans (hb3.mono HbelS.out.size), fun h => ?_⟩
              · rw [← Hat.out.g, Nat.gcd_comm p gk, Nat.gcd_rec gk p, Nat.gcd_comm]
              · obtain ⟨g4, off4, cap4, e4, _, _, hr4⟩ := hv4.row (show 0 < ln WB (p % gk) by omega)
                subst e4
                have h4 := hfr g4 rfl
                exact ⟨g1, g4, Ho2.out, rfl, hg1w, Nat.le_trans HbelS.out.size h4, by have := HsB.out.lt; omega⟩
            have hlt : p % gk < gk := Nat.mod_lt _ (Nat.pos_of_ne_zero fun e => by rw [Hlq.out, e, ln_zero] at hl; omega)
            have Hnew := Lib.hid hnew
            clear hnew hv3 hv4 hfr hb3 C6
            go_wp2_with fail
            go_roundg (p % gk)
            case rel => exact ⟨gk, Hnew.out⟩
            case measure => exact hlt
          · have hv0b : ((v0 : Int) != 0) = true := by rw [bne_iff_ne]; omega
            have hlo := Hout.out hv0
            have C4 := Lib.hid (apply_says _ (.slice Ap lp cp) v1 ga g1 lp p gk u0 v0 u1 v1' neg (by omega) HsA.out HsB.out hneg1 HK.out.1 HK.out.2.1 HK.out.2.2.1 HK.out.2.2.2 Hat.out.le hlo)
            clear hlo
            have Hv0 := Lib.hid hv0; clear hv0
            go_wp2_with fail
            refine C4.out.mono ?_
            rintro e w3 ⟨⟨r, x', y', rfl, hsx, hsy, hyx, hxg, hgg⟩, hbl⟩
            have hb3 := HbelS.out.trans (hbl w.heap.size hga hg1w)
            have Hb3 := Lib.hid hb3
            have C5 := Lib.hid (trim_says _ (.slice Ap lp cp) ga lp x' hsx)
            have C6 := Lib.hid (trim_says _ v1 g1 lp y' hsy)
            have Hgg := Lib.hid hgg
            clear hbl hb3 hsx hsy hgg C4
            go_wp2_with fail
            refine C5.out.mono ?_
            rintro e w' ⟨⟨v5, rfl, hv5, ho5⟩, rfl⟩
            have Hv5 := Lib.hid hv5; clear hv5
            have Ho5 := Lib.hid ho5; clear ho5
            go_wp2_with fail
            refine C6.out.mono ?_
            rintro e w' ⟨⟨v6, rfl, hv6, ho6⟩, rfl⟩
            have hnew : GcdAt w w3 v5 v6 G x' y' := ⟨Hv5.out, hv6, Nat.le_of_lt hyx, Nat.le_trans (ln_mono WB x' p h2 (Nat.le_trans hxg Hat.out.le)) Hat.out.lp, by rw [Hgg.out]; exact Hat.out.g, Hb3.out, fun _ => ⟨ga, g1, Ho5.out, ho6, hga, hg1w, hneg1⟩⟩
            have Hnew := Lib.hid hnew
            clear hnew hv6 ho6
            go_wp2_with fail
            go_roundg y'
            case rel => exact ⟨x', Hnew.out⟩
            case measure => omega
        · have hTr : Tab64 wr := HT.out.below Hat.out.bel
          have HTr := Lib.hid hTr; clear hTr
          have hgk : gk < WB := by
            have h3 := lt_pow_ln WB gk h2
            have h4 : WB ^ ln WB gk ≤ WB ^ 1 := Nat.pow_le_pow_right (by omega) (by omega)
            rw [Nat.pow_one] at h4
            omega
          by_cases h0 : gk = 0
          · subst h0
            have hgp : p = G := by rw [← Hat.out.g, Nat.gcd_zero_right]
            have Hgp := Lib.hid hgp; clear hgp
            rw [ln_zero]
            go_wp2_with fail
            go_ret
            refine ⟨⟨_, rfl, ?_⟩, Hat.out.bel⟩
            rw [← Hgp.out]
            exact Hat.out.na
          · have hl1 : ln WB gk = 1 := by
              have h5 : ln WB gk ≠ 0 := fun e => h0 ((ln_eq_zero WB gk h2).1 e)
              omega
            have hlp0 : 1 ≤ ln WB p := by omega
            have hnb := Hat.out.nb
            rw [hl1] at hnb ⊢
            obtain ⟨bb, ob, rfl, hcb⟩ := hnb.get hl1.symm (show 0 < 1 by omega)
            rw [dg_zero WB gk h2, Nat.mod_eq_of_lt hgk, Nat.add_zero] at hcb
            have hbblt : bb < wr.heap.size := hnb.block_lt (by rw [hl1]; omega) rfl
            clear hnb hl1 hl
            by_cases hlp1 : 1 < ln WB p
            · obtain ⟨r, hr⟩ : ∃ r, r = p % gk := ⟨_, rfl⟩
              have c4 := divWord_any (.slice Ap (ln WB p) cp) p gk wr Hat.out.na (by omega) hgk (by omega)
              rw [← hr] at c4
              have C4 := Lib.hid c4; clear c4
              have hrg : Nat.gcd gk r = G := by rw [hr, ← Hat.out.g, Nat.gcd_comm p gk, Nat.gcd_rec gk p, Nat.gcd_comm]
              have hrb : r < WB := by rw [hr]; exact Nat.lt_trans (Nat.mod_lt _ (by omega)) hgk
              have hGb : G < WB := by rw [← hrg]; exact Nat.lt_of_le_of_lt (Nat.le_of_dvd (by omega) (Nat.gcd_dvd_left gk r)) hgk
              have C5 : Hid (∀ W, Below wr.heap.size wr W → Calls Tryd.prog 60 #[.int .u64 (gk : Nat), .int .u64 (r : Nat)] W fun e w' => e = .returned (.int .u64 (G : Nat)) ∧ W = w') := Lib.hid fun W hb => by rw [← hrg]; exact gcdW_any gk r hgk hrb W (HTr.out.below hb)
              have C6 := Lib.hid (ofWord_any G hGb)
              clear hr hrg hrb hGb hgk h0
              go_wp2_with (first
                | (go_at_call 40; refine C4.out.mono ?_; rintro e w1 ⟨⟨v1, rfl, hv1⟩, hb1⟩; have hcb1 : w1.cell? ⟨bb, ob, none⟩ = some (.int .u64 (gk : Nat)) := (hb1.cell (p := ⟨bb, ob, none⟩) hbblt).trans hcb; have Hb1 := Lib.hid hb1; clear hv1 hb1)
                | (go_at_call 60; refine (C5.out _ Hb1.out).mono ?_; rintro e w' ⟨rfl, rfl⟩)
                | (go_at_call 59; refine (C6.out _).mono ?_; rintro e w2 ⟨⟨v2, rfl, hv2⟩, hb2⟩))
              go_ret
              have hbb := Hat.out.bel.trans (Hb1.out.mono Hat.out.bel.size)
              exact ⟨⟨_, rfl, hv2⟩, hbb.trans (hb2.mono hbb.size)⟩
            · have hlp2 : ln WB p = 1 := by omega
              have hpb : p < WB := by have h3 := lt_pow_ln WB p h2; rwa [hlp2, Nat.pow_one] at h3
              have hna := Hat.out.na
              rw [hlp2] at hna ⊢
              obtain ⟨ba, oa, rfl, hca⟩ := hna.get hlp2.symm (show 0 < 1 by omega)
              rw [dg_zero WB p h2, Nat.mod_eq_of_lt hpb, Nat.add_zero] at hca
              have hrg : Nat.gcd p gk = G := Hat.out.g
              have hGb : G < WB := by rw [← hrg]; exact Nat.lt_of_le_of_lt (Nat.le_of_dvd (by omega) (Nat.gcd_dvd_right p gk)) hgk
              have C5 : Hid (∀ W, Below wr.heap.size wr W → Calls Tryd.prog 60 #[.int .u64 (p : Nat), .int .u64 (gk : Nat)] W fun e w' => e = .returned (.int .u64 (G : Nat)) ∧ W = w') := Lib.hid fun W hb => by rw [← hrg]; exact gcdW_any p gk hpb hgk W (HTr.out.below hb)
              have C6 := Lib.hid (ofWord_any G hGb)
              have Hself := Lib.hid ((Below.refl wr.heap.size wr).drew)
              clear hlp1 hlp2 hpb hna hrg hGb hgk h0 hlp hlqp
              go_wp2_with fail
              go_region_with (first
                | (go_at_call 60; refine (C5.out _ Hself.out).mono ?_; rintro e w' ⟨rfl, rfl⟩)
                | (go_at_call 59; refine (C6.out _).mono ?_; rintro e w2 ⟨⟨v2, rfl, hv2⟩, hb2⟩))
              all_goals go_wp2_with fail
              all_goals go_ret
              all_goals
                have hbb := below_of_drew hb2
                exact ⟨⟨_, rfl, hv2⟩, Hat.out.bel.trans (hbb.mono Hat.out.bel.size)⟩

end Go.Proofs.YtbcckgofoknmbaaDoor
/-
  Several texts in one: MulN, AddSubN.
-/
/-
  The program's product of two numbers.
-/
namespace Go.Proofs.YtbcckgofoknmbaaDoor
open Go.RowKit Num

theorem Nums.block_lt' {w : World} {v : Value} {x g : Nat} (h : Nums 64 .u64 WB w v x) (h0 : 0 < ln WB x) (hg : v.ownBlock = some g) : g < w.heap.size := (h.says h0 hg).lt

theorem put_mul {b : Nat} {xs : List Nat} {K o c lo hi s ov E f X : Nat} (hk : K < xs.length) (ho : o = xs.getD K 0) (h : val b xs + c * b ^ K = X) (h1 : E * f + c = lo + hi * b) (h2 : o + lo = s + ov * b) :
    val b (xs.set K s) + (hi + ov) * b ^ (K + 1) = X + b ^ K * (E * f) := by
  have h3 := val_put b xs K s hk
  rw [← ho] at h3
  rw [Nat.pow_succ]
  generalize b ^ K = P at *
  have h4 : P * (E * f + c) = P * (lo + hi * b) := by rw [h1]
  have h5 : P * (o + lo) = P * (s + ov * b) := by rw [h2]
  simp only [Nat.mul_add] at h4 h5
  have e1 : P * (hi * b) = hi * (P * b) := by rw [← Nat.mul_assoc, Nat.mul_comm P hi, Nat.mul_assoc]
  have e2 : P * (ov * b) = ov * (P * b) := by rw [← Nat.mul_assoc, Nat.mul_comm P ov, Nat.mul_assoc]
  have e3 : P * c = c * P := Nat.mul_comm _ _
  rw [Nat.add_mul]
  omega

theorem carry_lt {o E f c lo hi s ov : Nat} (ho : o < WB) (hE : E < WB) (hf : f < WB) (hc : c < WB) (h1 : E * f + c = lo + hi * WB) (h2 : o + lo = s + ov * WB) : hi + ov < WB := by
  have h3 : E * f ≤ (WB - 1) * (WB - 1) := Nat.mul_le_mul (by omega) (by omega)
  have e : (WB - 1) * (WB - 1) = WB * WB - 2 * WB + 1 := by unfold WB; rfl
  have e2 : 2 * WB ≤ WB * WB := by unfold WB; decide
  apply Nat.lt_of_not_le
  intro hle
  have h4 : WB * WB ≤ (hi + ov) * WB := Nat.mul_le_mul_right _ hle
  rw [Nat.add_mul] at h4
  omega

theorem one_true (v : Value) (x : Nat) (w : World) (hv : Nums 64 .u64 WB w v x) (h : x = 1) :
    Calls Tryd.prog 39 #[v] w fun e w' => e = .returned (.bool true) ∧ ∃ nq, w' = w.drewN nq := by
  have := isOneW_any v x w hv
  rwa [decide_eq_true h] at this

theorem one_false (v : Value) (x : Nat) (w : World) (hv : Nums 64 .u64 WB w v x) (h : x ≠ 1) :
    Calls Tryd.prog 39 #[v] w fun e w' => e = .returned (.bool false) ∧ ∃ nq, w' = w.drewN nq := by
  have := isOneW_any v x w hv
  rwa [decide_eq_false h] at this

theorem Nums.drewN {t : TypeId} {k : IntKind} {b x : Nat} {w : World} {v : Value} (h : Nums t k b w v x) (n : Nat) : Nums t k b (w.drewN n) v x := h.below (below_drewN n (Below.refl w.heap.size w)) (Nat.le_refl _)

set_option maxRecDepth 100000 in
set_option maxHeartbeats 3200000 in
theorem mulNats_main (va vb : Value) (x y : Nat) (w : World) (ha : Nums 64 .u64 WB w va x) (hb : Nums 64 .u64 WB w vb y) (hlx : ln WB x ≤ 549755813888) (hly : ln WB y ≤ 549755813888) (hx1 : x ≠ 1) (hy1 : y ≠ 1) :
    Calls Tryd.prog 46 #[va, vb] w fun e w' => (∃ v, e = .returned v ∧ Nums 64 .u64 WB w' v (x * y)) ∧ Below w.heap.size w w' := by
  have h2 := WB_two
  obtain ⟨i0, hi, hz0, hz1, hz2⟩ := info_parts Tryd.info_u64p
  obtain ⟨Aa, ca, rfl, _, _, _⟩ := RowF.open ha
  obtain ⟨Ab, cb, rfl, _, _, _⟩ := RowF.open hb
  have C1 := Lib.hid (one_false _ x w ha hx1)
  have C2 : Hid (∀ n, Calls Tryd.prog 39 #[.slice Ab (ln WB y) cb] (w.drewN n) fun e w' => e = .returned (.bool false) ∧ ∃ nq, w' = (w.drewN n).drewN nq) := Lib.hid fun n => one_false _ y _ (hb.drewN n) hy1
  have HA := Lib.hid ha; clear ha
  have HB := Lib.hid hb; clear hb
  obtain ⟨la, hla⟩ : ∃ la, la = ln WB x := ⟨_, rfl⟩
  obtain ⟨lb, hlb⟩ : ∃ lb, lb = ln WB y := ⟨_, rfl⟩
  rw [← hla] at HA hlx C1 ⊢
  rw [← hlb] at HB hly C2 ⊢
  have Hla := Lib.hid hla; clear hla
  have Hlb := Lib.hid hlb; clear hlb
  clear hx1 hy1
  go_enter Tryd.func46, Tryd.ntmps46
  go_wp2_with (first
    | (go_at_call_of 39 (Value.slice Aa la ca); refine C1.out.mono ?_; rintro e w' ⟨rfl, n1, rfl⟩)
    | (go_at_call_of 39 (Value.slice Ab lb cb); refine (C2.out _).mono ?_; rintro e w' ⟨rfl, n2, rfl⟩)
    | (at_make; refine wpList_make_full _ rfl _ _ 41 rfl w.heap.size 64 i0 (.int .u64 0) 1 Tryd.underlying41 hi hz0 hz1 _ _ _ _ (la + lb) rfl rfl (by omega) (by omega) ?b2 ?b3 (Nat.le_refl _) ?_))
  case b2 => rw [hz2]; omega
  case b3 => unfold maxLen; omega
  intro w0 hown0 hgrow0
  have hrow0 := own_rowW (made_own hown0)
  have hbel0 : Below w.heap.size w w0 := (below_drewN _ (Below.refl w.heap.size w)).trans ((Below.refl _ _).grown hgrow0 (Nat.le_refl _) (fun k h => by cases h))
  have Hrow0 := Lib.hid hrow0
  have Hbel0 := Lib.hid hbel0
  clear hown0 hgrow0 hrow0 hbel0 C1 C2
  go_wp2_with fail
  go_loopw [29] (fun i wr => ∃ (k : Nat) (zs : List Nat), i = .int .i64 (k : Nat) ∧ k ≤ la ∧ zs.length = la + lb ∧ Dig WB zs ∧ val WB zs = x % WB ^ k * y ∧ RowW 64 wr w.heap.size 0 zs ∧ Below w.heap.size w wr) (fun i _ => la - (intOf i).toNat)
  case atStart => exact ⟨0, _, rfl, by omega, by simp, rep_dig _, by rw [val_replicate_zero]; simp [Nat.mod_one], Hrow0.out, Hbel0.out⟩
  case round =>
    clear Hrow0 Hbel0
    obtain ⟨k, zs, rfl, hkl, hlen, hdig, hval, hrow, hbel⟩ := hrel
    have Hlen := Lib.hid hlen; clear hlen
    have Hdig := Lib.hid hdig; clear hdig
    have Hval := Lib.hid hval; clear hval
    have Hrow := Lib.hid hrow; clear hrow
    have Hbel := Lib.hid hbel; clear hbel
    by_cases hk : k < la
    · obtain ⟨ba, oa, rfl, hcA⟩ := (HA.out.below Hbel.out (Nat.le_refl _)).get Hla.out hk
      obtain ⟨D, hD⟩ : ∃ D, D = dg WB x k := ⟨_, rfl⟩
      rw [← hD] at hcA
      have hDb : D < WB := by rw [hD]; exact dg_lt _ _ _ h2
      have hz : zs.getD (k + lb) 0 = 0 := by
        have hlt : x % WB ^ k * y < WB ^ (k + lb) := by
          rw [Nat.pow_add]
          have h3 : x % WB ^ k < WB ^ k := Nat.mod_lt _ (Nat.pow_pos (by omega))
          have h4 : y < WB ^ lb := by rw [Hlb.out]; exact lt_pow_ln WB y h2
          exact Nat.mul_lt_mul'' h3 h4
        rw [getD_val WB zs Hdig.out, Hval.out, Nat.div_eq_of_lt hlt, Nat.zero_mod]
      have Hz := Lib.hid hz; clear hz
      have HD := Lib.hid hD; clear hD
      have HDb := Lib.hid hDb; clear hDb
      have hcap : ¬ la + lb = k := by omega
      go_wp2_with fail
      rw [show k + lb - k = lb by omega]
      go_loopw [9, 43] (fun cv j wr => ∃ (c j' : Nat) (ys : List Nat), cv = .int .u64 (c : Nat) ∧ j = .int .i64 (j' : Nat) ∧ j' ≤ lb ∧ c < WB ∧ ys.length = la + lb ∧ Dig WB ys ∧ ys.getD (k + lb) 0 = 0 ∧ val WB ys + c * WB ^ (k + j') = x % WB ^ k * y + WB ^ k * (D * (y % WB ^ j')) ∧ RowW 64 wr w.heap.size 0 ys ∧ Below w.heap.size w wr) (fun _ j _ => lb - (intOf j).toNat)
      case atStart => exact ⟨0, 0, zs, rfl, rfl, by omega, by omega, Hlen.out, Hdig.out, Hz.out, by rw [Hval.out]; simp [Nat.mod_one], Hrow.out, Hbel.out⟩
      case round =>
        clear Hlen Hdig Hval Hrow Hbel Hz hcA
        obtain ⟨c, j, ys, rfl, rfl, hjl, hc, hlen, hdig, hz, hval, hrow, hbel⟩ := hrel
        have Hlen := Lib.hid hlen; clear hlen
        have Hdig := Lib.hid hdig; clear hdig
        have Hz := Lib.hid hz; clear hz
        have Hval := Lib.hid hval; clear hval
        have Hrow := Lib.hid hrow; clear hrow
        have Hbel := Lib.hid hbel; clear hbel
        have Hc := Lib.hid hc; clear hc
        by_cases hj : j < lb
        · obtain ⟨bb, ob, rfl, hcB⟩ := (HB.out.below Hbel.out (Nat.le_refl _)).get Hlb.out hj
          obtain ⟨E, hE⟩ : ∃ E, E = dg WB y j := ⟨_, rfl⟩
          rw [← hE] at hcB
          have hEb : E < WB := by rw [hE]; exact dg_lt _ _ _ h2
          obtain ⟨o, ho⟩ : ∃ o, o = ys.getD (k + j) 0 := ⟨_, rfl⟩
          have hkl2 : k + j < ys.length := by rw [Hlen.out]; omega
          have hcO : wr.cell? ⟨w.heap.size, k + j, none⟩ = some (.int .u64 (o : Nat)) := by have := Hrow.out.cell hkl2; rwa [Nat.zero_add, ← ho] at this
          have hfO : wr.frozen? ⟨w.heap.size, k + j, none⟩ = false := Hrow.out.free _
          have hob : o < WB := by rw [ho]; exact getD_below (by omega) Hdig.out _
          obtain ⟨lo, hlo⟩ : ∃ p, p = (E * D + c) % WB := ⟨_, rfl⟩
          obtain ⟨hi', hhi⟩ : ∃ p, p = (E * D + c) / WB := ⟨_, rfl⟩
          have hlob : lo < WB := by rw [hlo]; exact Nat.mod_lt _ (by omega)
          have M1 := Lib.hid (mulAdd_same E D c lo hi' hEb HDb.out Hc.out hlo hhi)
          have hm1 : E * D + c = lo + hi' * WB := by rw [hlo, hhi, Nat.mul_comm _ WB]; exact (Nat.mod_add_div _ _).symm
          obtain ⟨s, hs⟩ : ∃ s, s = (o + lo) % WB := ⟨_, rfl⟩
          obtain ⟨ov, hov⟩ : ∃ s, s = (o + lo) / WB := ⟨_, rfl⟩
          have hsb : s < WB := by rw [hs]; exact Nat.mod_lt _ (by omega)
          have hm2 : o + lo = s + ov * WB := by rw [hs, hov, Nat.mul_comm _ WB]; exact (Nat.mod_add_div _ _).symm
          have hadd : ∀ W, (callFunc 72 #[.int .u64 (o : Nat), .int .u64 (lo : Nat), .int .u64 0]).run Tryd.prog W = .ok (.value (.tuple #[.int .u64 (s : Nat), .int .u64 (ov : Nat)])) W := fun W => by rw [hs, hov]; exact Tryd.add64_run0 o lo W
          have hcl := carry_lt hob hEb HDb.out Hc.out hm1 hm2
          have kc : IntKind.u64.wrap ((hi' : Int) + (ov : Int)) = ((hi' + ov : Nat) : Int) := by
            unfold WB at hcl
            rw [IntWalk.u64_in _ (by omega)]; omega
          obtain ⟨c', hc'⟩ : ∃ c', c' = hi' + ov := ⟨_, rfl⟩
          rw [← hc'] at kc hcl
          have hnew : val WB (ys.set (k + j) s) + c' * WB ^ (k + (j + 1)) = x % WB ^ k * y + WB ^ k * (D * (y % WB ^ (j + 1))) := by
            rw [mul_inner WB k D y j h2, ← hE, ← Nat.add_assoc k j 1, hc', Nat.mul_comm D E, ← Nat.add_assoc]
            exact put_mul hkl2 ho Hval.out hm1 hm2
          have Hnew := Lib.hid hnew; clear hnew
          have hrow2 := Hrow.out.set (k + j) hkl2 s
          rw [Nat.zero_add] at hrow2
          have Hrow2 := Lib.hid hrow2; clear hrow2
          have Hbel2 := Lib.hid (Hbel.out.setCell (p := ⟨w.heap.size, k + j, none⟩) (Nat.le_refl _) (.int .u64 (s : Nat)))
          have Hsb := Lib.hid hsb; clear hsb
          have Hcl := Lib.hid hcl; clear hcl
          have Hz2 : Hid ((ys.set (k + j) s).getD (k + lb) 0 = 0) := Lib.hid (by rw [getD_put_ne _ _ _ _ (by omega)]; exact Hz.out)
          clear hE hEb ho hob hlo hhi hlob hm1 hs hov hm2 hc' hkl2
          go_wp2_with (go_at_call 71; refine (M1.out _).mono ?_; rintro e w' ⟨rfl, rfl⟩)
          go_roundw
          case rel => exact ⟨c', j + 1, _, by first | rfl | rw [kc], by go_num, by omega, Hcl.out, by rw [List.length_set]; exact Hlen.out, Hdig.out.put _ Hsb.out, Hz2.out, Hnew.out, Hrow2.out, Hbel2.out⟩
          case measure => simp [intOf]; omega
        · obtain rfl : j = lb := by omega
          have hkl2 : k + j < ys.length := by rw [Hlen.out]; omega
          have hcO : wr.cell? ⟨w.heap.size, k + j, none⟩ = some (.int .u64 (ys.getD (k + j) 0 : Nat)) := by have := Hrow.out.cell hkl2; rwa [Nat.zero_add] at this
          have hfO : wr.frozen? ⟨w.heap.size, k + j, none⟩ = false := Hrow.out.free _
          have hnew : val WB (ys.set (k + j) c) = x % WB ^ (k + 1) * y := by
            have h3 := val_put WB ys (k + j) c hkl2
            rw [Hz.out, Nat.mul_zero, Nat.add_zero, Nat.mul_comm (WB ^ (k + j)), Hval.out, mod_pow_ln WB y j h2 (by rw [← Hlb.out]; omega), HD.out, ← mul_next WB x y k h2] at h3
            exact h3
          have Hnew := Lib.hid hnew; clear hnew
          have hrow2 := Hrow.out.set (k + j) hkl2 c
          rw [Nat.zero_add] at hrow2
          have Hrow2 := Lib.hid hrow2; clear hrow2
          have Hbel2 := Lib.hid (Hbel.out.setCell (p := ⟨w.heap.size, k + j, none⟩) (Nat.le_refl _) (.int .u64 (c : Nat)))
          clear hkl2 hj
          go_wp2_with fail
          go_roundw
          case rel => exact ⟨k + 1, _, by go_num, by omega, by rw [List.length_set]; exact Hlen.out, Hdig.out.put _ Hc.out, Hnew.out, Hrow2.out, Hbel2.out⟩
          case measure => simp [intOf]; omega
    · obtain rfl : k = la := by omega
      have hrow := Hrow.out.rowF (cap := k + lb) (by rw [Hlen.out]; omega) (by unfold maxLen; omega)
      rw [Hlen.out] at hrow
      have C3 := Lib.hid (trimW_any (.slice (some ⟨w.heap.size, 0, none⟩) (k + lb) (k + lb)) zs wr Hdig.out (by rw [Hlen.out]; exact hrow))
      have e1 := Hval.out
      rw [mod_pow_ln WB x k h2 (by rw [← Hla.out]; omega)] at e1
      have He1 := Lib.hid e1
      clear hrow e1 hk
      go_wp2_with (go_at_call 53; refine C3.out.mono ?_; rintro e w' ⟨⟨v', rfl, hv'⟩, rfl⟩)
      go_ret
      rw [He1.out] at hv'
      exact ⟨⟨_, rfl, hv'⟩, Hbel.out⟩

set_option maxRecDepth 100000 in
set_option maxHeartbeats 800000 in
theorem mulNats_left (va vb : Value) (x _y : Nat) (w : World) (ha : Nums 64 .u64 WB w va x) (hx1 : x = 1) :
    Calls Tryd.prog 46 #[va, vb] w fun e w' => e = .returned vb ∧ ∃ nq, w' = w.drewN nq := by
  have C1 := Lib.hid (one_true _ x w ha hx1)
  clear ha hx1
  go_enter Tryd.func46, Tryd.ntmps46
  go_wp2_with (go_at_call 39; refine C1.out.mono ?_; rintro e w' ⟨rfl, n1, rfl⟩)
  go_ret
  exact ⟨rfl, _, rfl⟩

set_option maxRecDepth 100000 in
set_option maxHeartbeats 800000 in
theorem mulNats_right (va vb : Value) (x y : Nat) (w : World) (ha : Nums 64 .u64 WB w va x) (hb : Nums 64 .u64 WB w vb y) (hx1 : x ≠ 1) (hy1 : y = 1) (_hne : va ≠ vb) :
    Calls Tryd.prog 46 #[va, vb] w fun e w' => e = .returned va ∧ ∃ nq, w' = w.drewN nq := by
  have C1 := Lib.hid (one_false _ x w ha hx1)
  have C2 : Hid (∀ n, Calls Tryd.prog 39 #[vb] (w.drewN n) fun e w' => e = .returned (.bool true) ∧ ∃ nq, w' = (w.drewN n).drewN nq) := Lib.hid fun n => one_true _ y _ (hb.drewN n) hy1
  clear ha hb hx1 hy1
  go_enter Tryd.func46, Tryd.ntmps46
  go_wp2_with (first
    | (go_at_call_of 39 va; refine C1.out.mono ?_; rintro e w' ⟨rfl, n1, rfl⟩)
    | (go_at_call_of 39 vb; refine (C2.out _).mono ?_; rintro e w' ⟨rfl, n2, rfl⟩))
  go_ret
  exact ⟨rfl, _, rfl⟩

/-- The program's product of two numbers. -/
theorem mulNats_any (va vb : Value) (x y : Nat) (w : World) (ha : Nums 64 .u64 WB w va x) (hb : Nums 64 .u64 WB w vb y) (hlx : ln WB x ≤ 549755813888) (hly : ln WB y ≤ 549755813888) :
    Calls Tryd.prog 46 #[va, vb] w fun e w' => (∃ v, e = .returned v ∧ Nums 64 .u64 WB w' v (x * y)) ∧ Below w.heap.size w w' := by
  by_cases hx : x = 1
  · refine (mulNats_left va vb x y w ha hx).mono ?_
    rintro e w' ⟨rfl, nq, rfl⟩
    exact ⟨⟨_, rfl, by rw [hx, Nat.one_mul]; exact hb.drewN nq⟩, below_drewN nq (Below.refl _ _)⟩
  · by_cases hy : y = 1
    · refine (mulNats_right va vb x y w ha hb hx hy (fun e => ?_)).mono ?_
      · subst e
        have e1 : ln WB x = ln WB y := by
          obtain ⟨A1, c1, h1, _⟩ := RowF.open ha
          obtain ⟨A2, c2, h3, _⟩ := RowF.open hb
          rw [h1] at h3
          injection h3
        have hl1 : ln WB y = 1 := by rw [hy, ln_one WB WB_two]
        obtain ⟨A1, c1, rfl, _, _, _⟩ := RowF.open ha
        obtain ⟨b1, o1, h5, hc1⟩ := ha.get rfl (show 0 < ln WB x by omega)
        obtain ⟨b2, o2, h6, hc2⟩ := hb.get e1 (show 0 < ln WB x by omega)
        rw [h5] at h6
        injection h6 with h6
        injection h6 with h7 h8
        subst h7 h8
        rw [hc1] at hc2
        injection hc2 with hc2
        injection hc2 with _ hc2
        have h9 : dg WB x 0 = dg WB y 0 := by omega
        have hxb : x < WB := by have := lt_pow_ln WB x WB_two; rwa [e1, hl1, Nat.pow_one] at this
        rw [dg_zero WB x WB_two, dg_zero WB y WB_two, Nat.mod_eq_of_lt hxb, hy] at h9
        exact hx (by rw [h9]; unfold WB; decide)
      · rintro e w' ⟨rfl, nq, rfl⟩
        exact ⟨⟨_, rfl, by rw [hy, Nat.mul_one]; exact ha.drewN nq⟩, below_drewN nq (Below.refl _ _)⟩
    · exact mulNats_main va vb x y w ha hb hlx hly hx hy

end Go.Proofs.YtbcckgofoknmbaaDoor
/-
  The program's sum and difference of two numbers, exact quotient, and the sum of two numbers with signs.
-/
namespace Go.Proofs.YtbcckgofoknmbaaDoor
open Go.RowKit Num

set_option maxRecDepth 100000 in
set_option maxHeartbeats 1600000 in
theorem addNats_any (va vb : Value) (x0 y0 : Nat) (w : World) (ha0 : Nums 64 .u64 WB w va x0) (hb0 : Nums 64 .u64 WB w vb y0) (hlx0 : ln WB x0 ≤ 549755813888) (hly0 : ln WB y0 ≤ 549755813888) :
    Calls Tryd.prog 73 #[va, vb] w fun e w' => (∃ v, e = .returned v ∧ Nums 64 .u64 WB w' v (x0 + y0)) ∧ Below w.heap.size w w' := by
  have h2 := WB_two
  obtain ⟨i0, hi, hz0, hz1, hz2⟩ := info_parts Tryd.info_u64p
  obtain ⟨A0, c0, rfl, _, _, _⟩ := RowF.open ha0
  obtain ⟨A1, c1, rfl, _, _, _⟩ := RowF.open hb0
  have HA0 := Lib.hid ha0; clear ha0
  have HB0 := Lib.hid hb0; clear hb0
  obtain ⟨S, hS⟩ : ∃ S, S = x0 + y0 := ⟨_, rfl⟩
  rw [← hS]
  have HS := Lib.hid hS; clear hS
  go_enter Tryd.func73, Tryd.ntmps73
  go_upto_if 10 with fail
  go_cut [0, 1] (fun s0 s1 wx => ∃ x y : Nat, Nums 64 .u64 WB w s0 x ∧ Nums 64 .u64 WB w s1 y ∧ ln WB x ≤ 549755813888 ∧ ln WB y ≤ ln WB x ∧ x + y = S ∧ w = wx)
  case first =>
    by_cases hlt : ln WB x0 < ln WB y0
    · go_wp2_with fail
      go_meet
      exact ⟨y0, x0, HB0.out, HA0.out, hly0, Nat.le_of_lt hlt, by rw [HS.out, Nat.add_comm], rfl⟩
    · go_wp2_with fail
      go_meet
      exact ⟨x0, y0, HA0.out, HB0.out, hlx0, by omega, HS.out.symm, rfl⟩
  clear HS
  obtain ⟨x, y, ha, hb, hlx, hle, hS, rfl⟩ := hcut
  have HS := Lib.hid hS; clear hS HA0 HB0 hlx0 hly0
  obtain ⟨Aa, ca, rfl, _, _, _⟩ := RowF.open ha
  obtain ⟨Ab, cb, rfl, _, _, _⟩ := RowF.open hb
  have HA := Lib.hid ha; clear ha
  have HB := Lib.hid hb; clear hb
  obtain ⟨la, hla⟩ : ∃ la, la = ln WB x := ⟨_, rfl⟩
  obtain ⟨lb, hlb⟩ : ∃ lb, lb = ln WB y := ⟨_, rfl⟩
  rw [← hla] at HA hlx hle ⊢
  rw [← hlb] at HB hle ⊢
  have Hla := Lib.hid hla; clear hla
  have Hlb := Lib.hid hlb; clear hlb
  have hns : ¬ la < lb := by omega
  go_wp2_with (at_make; refine wpList_make_full _ rfl _ _ 41 rfl w.heap.size 64 i0 (.int .u64 0) 1 Tryd.underlying41 hi hz0 hz1 _ _ _ _ (la + 1) rfl rfl (by omega) (by omega) ?b2 ?b3 (Nat.le_refl _) ?_)
  case b2 => rw [hz2]; omega
  case b3 => unfold maxLen; omega
  intro w0 hown0 hgrow0
  have hw0 := own_whole (made_own hown0)
  have hbel0 : Below w.heap.size w w0 := (Below.refl _ _).grown hgrow0 (Nat.le_refl _) (fun k h => by cases h)
  have Hc := Lib.hid (digs_cell (HA.out.below hbel0 (Nat.le_refl _)) Hla.out)
  have Hw0 := Lib.hid hw0
  have Hbel0 := Lib.hid hbel0
  clear hown0 hgrow0 hw0 hbel0
  go_wp2_with (with_reducible refine wpList_copy_splice rfl (.tmp 17) (.tmp 18) 41 41 rfl 64 Tryd.underlying41 Tryd.size_u64 (some ⟨w.heap.size, 0, none⟩) Aa (la + 1) (la + 1) la ca rfl rfl w.heap.size 0 ((List.replicate (la + 1) 0).map fun x => Value.int .u64 (x : Nat)) 64 Hw0.out ((digs WB x).map fun x => Value.int .u64 (x : Nat)) ?c1 ?c2 ?c3 ?c4 w.heap.size w Hbel0.out (Nat.le_refl _) ?_)
  case c1 => rw [List.length_map, length_digs, ← Hla.out]; exact (Nat.min_eq_left (by omega)).symm
  case c2 => exact fun h0 => by simpa using Hc.out (by simpa using h0)
  case c3 => simp [length_digs, ← Hla.out]
  case c4 => intro v hv; obtain ⟨y, _, rfl⟩ := List.mem_map.1 hv; rfl
  intro w1 hw1 hb1
  have hrow1 : RowW 64 w1 w.heap.size 0 (pad WB (la + 1) x) := by
    refine rowW_whole ?_
    rw [← splice_pad (la + 1) x (by rw [← Hla.out]; omega)]
    have h1 := hw1.out
    simpa using h1
  have hpl : (pad WB (la + 1) x).length = la + 1 := pad_len WB (la + 1) x (by rw [← Hla.out]; omega)
  have hne : (Value.slice Ab lb cb).ownBlock ≠ some w.heap.size := by
    intro e
    by_cases h0 : 0 < ln WB y
    · have := HB.out.block_lt' h0 e
      omega
    · rcases HB.out with ⟨h5, _⟩ | ⟨b5, o5, c5, h5, _, _, ⟨cs, h6⟩, _⟩
      · rw [h5] at e; cases e
      · rw [h5] at e
        have : b5 = w.heap.size := by simpa [Value.ownBlock] using e
        have := heap_lt h6
        omega
  have C4 := Lib.hid (addInto_any w.heap.size 0 (la + 1) (la + 1) (pad WB (la + 1) x) (.slice Ab lb cb) y w1 hrow1 (pad_dig WB _ _ h2) hpl (by unfold maxLen; omega) (HB.out.below hb1 (Nat.le_refl _)) hne (by rw [← Hlb.out]; omega))
  have Hb1 := Lib.hid hb1
  clear hw1 hb1 hrow1 hpl hne
  go_wp2_with fail
  refine C4.out.mono ?_
  rintro e w2 ⟨⟨ys, c, rfl, hc, hyl, hyd, hyv, hyr⟩, hwr⟩
  have hxy : val WB ys = S := by
    rw [← HS.out]
    rw [pad_val WB _ _ h2] at hyv
    have h3 : x < WB ^ la := by rw [Hla.out]; exact lt_pow_ln WB x h2
    have h4 : y < WB ^ la := Nat.lt_of_lt_of_le (by rw [Hlb.out]; exact lt_pow_ln WB y h2 : y < WB ^ lb) (Nat.pow_le_pow_right (by omega) hle)
    have h5 : WB ^ (la + 1) = WB ^ la * WB := Nat.pow_succ _ _
    have h6 : WB ^ la * 2 ≤ WB ^ la * WB := Nat.mul_le_mul_left _ h2
    have h7 : c = 0 := by
      apply Nat.eq_zero_of_not_pos
      intro h8
      have : 1 * WB ^ (la + 1) ≤ c * WB ^ (la + 1) := Nat.mul_le_mul_right _ h8
      omega
    rw [h7] at hyv
    omega
  have hrow := hyr.rowF (cap := la + 1) (by rw [hyl]; omega) (by unfold maxLen; omega)
  rw [hyl] at hrow
  have C5 := Lib.hid (trimW_any (.slice (some ⟨w.heap.size, 0, none⟩) (la + 1) (la + 1)) ys w2 hyd (by rw [hyl]; exact hrow))
  have Hxy := Lib.hid hxy
  have Hb2 := Lib.hid (Hb1.out.trans (hwr.below (Nat.le_refl _)))
  clear hc hyl hyd hyv hyr hwr hxy hrow C4
  go_wp2_with fail
  refine C5.out.mono ?_
  rintro e w' ⟨⟨v', rfl, hv'⟩, rfl⟩
  rw [Hxy.out] at hv'
  have Hv := Lib.hid hv'
  clear hv'
  go_wp2_with fail
  go_ret
  exact ⟨⟨_, rfl, Hv.out⟩, Hb2.out⟩

set_option maxRecDepth 100000 in
set_option maxHeartbeats 1600000 in
theorem subNats_any (va vb : Value) (x y : Nat) (w : World) (ha : Nums 64 .u64 WB w va x) (hb : Nums 64 .u64 WB w vb y) (hlx : ln WB x ≤ 549755813888) (hle : y ≤ x) (h0 : 0 < x) :
    Calls Tryd.prog 74 #[va, vb] w fun e w' => (∃ v, e = .returned v ∧ Nums 64 .u64 WB w' v (x - y)) ∧ Below w.heap.size w w' := by
  have h2 := WB_two
  have hlx0 : 0 < ln WB x := Nat.pos_of_ne_zero fun e => by have := (ln_eq_zero WB x h2).1 e; omega
  have hlyx := ln_mono WB y x h2 hle
  obtain ⟨Ab, cb, rfl, _, _, _⟩ := RowF.open hb
  have C1 := Lib.hid (clone_says w va x ha hlx0 (by omega))
  have HB := Lib.hid hb
  have hne : ∀ g, w.heap.size ≤ g → (Value.slice Ab (ln WB y) cb).ownBlock ≠ some g := fun g hg e => by
    by_cases hl : 0 < ln WB y
    · have := hb.block_lt' hl e
      omega
    · rcases hb with ⟨h5, _⟩ | ⟨b5, o5, c5, h5, _, _, ⟨cs, h6⟩, _⟩
      · rw [h5] at e; cases e
      · rw [h5] at e
        have : b5 = g := by simpa [Value.ownBlock] using e
        have := heap_lt h6
        omega
  have Hne := Lib.hid hne
  clear ha hb hne
  go_enter Tryd.func74, Tryd.ntmps74
  go_wp2_with fail
  refine C1.out.mono ?_
  rintro e w1 ⟨⟨v1, g1, rfl, hv1, ho1, hg1, hg1'⟩, hb1⟩
  obtain ⟨off, cap, zs, rfl, k2, k3, k4, k5, k6, k7⟩ := hv1.says hlx0 ho1
  have C2 := Lib.hid (subMul_any g1 off cap (ln WB x) zs (.slice Ab (ln WB y) cb) y 1 w1 (by omega) k7 k5 k4 (by unfold maxLen; omega) (HB.out.below hb1 (Nat.le_refl _)) (Hne.out g1 hg1) hlyx)
  have HK := Lib.hid (And.intro k4 k6)
  have Hb1 := Lib.hid hb1
  clear hv1 ho1 hb1 k4 k5 k6 k7
  go_wp2_with fail
  refine C2.out.mono ?_
  rintro e w2 ⟨⟨ys, t, rfl, ht, hyl, hyd, hyv, hyr⟩, hwr⟩
  have hxy : val WB ys = x - y := by
    rw [HK.out.2, Nat.one_mul] at hyv
    have h5 := val_lt WB ys hyd
    rw [hyl] at h5
    have h6 := lt_pow_ln WB x h2
    have h7 : t = 0 := by
      apply Nat.eq_zero_of_not_pos
      intro h8
      have : 1 * WB ^ ln WB x ≤ t * WB ^ ln WB x := Nat.mul_le_mul_right _ h8
      omega
    rw [h7] at hyv
    omega
  have hrow := hyr.rowF (cap := cap) (by rw [hyl]; exact k2) k3
  rw [hyl] at hrow
  have C5 := Lib.hid (trimW_any (.slice (some ⟨g1, off, none⟩) (ln WB x) cap) ys w2 hyd (by rw [hyl]; exact hrow))
  have Hxy := Lib.hid hxy
  have Hb2 := Lib.hid (Hb1.out.trans (hwr.below hg1))
  clear ht hyl hyd hyv hyr hwr hxy hrow C2
  go_wp2_with fail
  refine C5.out.mono ?_
  rintro e w' ⟨⟨v', rfl, hv'⟩, rfl⟩
  rw [Hxy.out] at hv'
  have Hv := Lib.hid hv'
  clear hv'
  go_wp2_with fail
  go_ret
  exact ⟨⟨_, rfl, Hv.out⟩, Hb2.out⟩

set_option maxRecDepth 100000 in
set_option maxHeartbeats 1600000 in
theorem exact_any (va vb : Value) (x y : Nat) (w : World) (ha : Nums 64 .u64 WB w va x) (hb : Nums 64 .u64 WB w vb y) (hy : 0 < y) (hlx : ln WB x ≤ 549755813888) :
    Calls Tryd.prog 45 #[va, vb] w fun e w' => (∃ v, e = .returned v ∧ Nums 64 .u64 WB w' v (x / y)) ∧ Below w.heap.size w w' := by
  by_cases h1 : y = 1
  · have C1 := Lib.hid (one_true vb y w hb h1)
    have HA := Lib.hid ha
    have H1 := Lib.hid h1
    clear ha hb h1 hy
    go_enter Tryd.func45, Tryd.ntmps45
    go_wp2_with (go_at_call 39; refine C1.out.mono ?_; rintro e w' ⟨rfl, n1, rfl⟩)
    go_ret
    exact ⟨⟨_, rfl, by rw [H1.out, Nat.div_one]; exact HA.out.drewN n1⟩, below_drewN n1 (Below.refl _ _)⟩
  · have C1 := Lib.hid (one_false vb y w hb h1)
    have C2 : Hid (∀ n, Calls Tryd.prog 58 #[va, vb] (w.drewN n) fun e w' => (∃ v v', e = .returned (.tuple #[v, v']) ∧ Nums 64 .u64 WB w' v (x / y) ∧ Nums 64 .u64 WB w' v' (x % y)) ∧ Below w.heap.size (w.drewN n) w') :=
      Lib.hid fun n => divNats_any va vb x y (w.drewN n) (ha.drewN n) (hb.drewN n) hy hlx
    clear ha hb h1 hy
    go_enter Tryd.func45, Tryd.ntmps45
    go_wp2_with (first
      | (go_at_call 39; refine C1.out.mono ?_; rintro e w' ⟨rfl, n1, rfl⟩)
      | (go_at_call 58; refine (C2.out _).mono ?_; rintro e w2 ⟨⟨v, v', rfl, hv, hv'⟩, hb2⟩))
    go_ret
    exact ⟨⟨_, rfl, hv⟩, (below_drewN _ (Below.refl w.heap.size w)).trans hb2⟩

/-- The sum of two numbers with signs. -/
def sgnSum (a : Bool) (x : Nat) (b : Bool) (y : Nat) : Bool × Nat := if a = b then (a, x + y) else if x < y then (b, y - x) else (a, x - y)

set_option maxRecDepth 100000 in
set_option maxHeartbeats 1600000 in
theorem addSigned_any (a b : Bool) (va vb : Value) (x y : Nat) (w : World) (ha : Nums 64 .u64 WB w va x) (hb : Nums 64 .u64 WB w vb y) (hlx : ln WB x ≤ 549755813888) (hly : ln WB y ≤ 549755813888) (h0 : a ≠ b → 0 < x ∨ 0 < y) :
    Calls Tryd.prog 47 #[.bool a, va, .bool b, vb] w fun e w' => (∃ v, e = .returned (.tuple #[.bool (sgnSum a x b y).1, v]) ∧ Nums 64 .u64 WB w' v (sgnSum a x b y).2) ∧ Below w.heap.size w w' := by
  by_cases hab : a = b
  · have C1 := Lib.hid (addNats_any va vb x y w ha hb hlx hly)
    have e1 : sgnSum a x b y = (a, x + y) := by rw [sgnSum, if_pos hab]
    rw [e1]
    subst hab
    clear ha hb h0 e1
    have hbb : (a == a) = true := by simp
    go_enter Tryd.func47, Tryd.ntmps47
    go_wp2_with (go_at_call 73; refine C1.out.mono ?_; rintro e w1 ⟨⟨v, rfl, hv⟩, hb1⟩)
    go_ret2
    exact ⟨⟨_, rfl, hv⟩, hb1⟩
  · have hab2 : (a == b) = false := by simpa using hab
    have C1 := Lib.hid (cmpW_any va vb x y w ha hb)
    by_cases hxy : x < y
    · have e1 : sgnSum a x b y = (b, y - x) := by rw [sgnSum, if_neg hab, if_pos hxy]
      have ec : cmpI x y = -1 := by rw [cmpI, if_pos hxy]
      rw [e1]
      rw [ec] at C1
      have C2 : Hid (∀ n, Calls Tryd.prog 74 #[vb, va] (w.drewN n) fun e w' => (∃ v, e = .returned v ∧ Nums 64 .u64 WB w' v (y - x)) ∧ Below w.heap.size (w.drewN n) w') := Lib.hid fun n => subNats_any vb va y x (w.drewN n) (hb.drewN n) (ha.drewN n) hly (Nat.le_of_lt hxy) (by omega)
      clear ha hb h0 e1 ec hab hxy
      go_enter Tryd.func47, Tryd.ntmps47
      go_wp2_with (first
        | (go_at_call 54; refine C1.out.mono ?_; rintro e w' ⟨rfl, n1, rfl⟩)
        | (go_at_call 74; refine (C2.out _).mono ?_; rintro e w2 ⟨⟨v, rfl, hv⟩, hb2⟩))
      go_ret2
      exact ⟨⟨_, rfl, hv⟩, (below_drewN _ (Below.refl w.heap.size w)).trans hb2⟩
    · have e1 : sgnSum a x b y = (a, x - y) := by rw [sgnSum, if_neg hab, if_neg hxy]
      have ec : 0 ≤ cmpI x y := by rw [cmpI, if_neg hxy]; split <;> omega
      obtain ⟨c, hc⟩ : ∃ c, c = cmpI x y := ⟨_, rfl⟩
      rw [e1]
      rw [← hc] at C1 ec
      have C2 : Hid (∀ n, Calls Tryd.prog 74 #[va, vb] (w.drewN n) fun e w' => (∃ v, e = .returned v ∧ Nums 64 .u64 WB w' v (x - y)) ∧ Below w.heap.size (w.drewN n) w') := Lib.hid fun n => subNats_any va vb x y (w.drewN n) (ha.drewN n) (hb.drewN n) hlx (by omega) (by have := h0 hab; omega)
      clear ha hb h0 e1 hc hab hxy
      go_enter Tryd.func47, Tryd.ntmps47
      go_wp2_with (first
        | (go_at_call 54; refine C1.out.mono ?_; rintro e w' ⟨rfl, n1, rfl⟩)
        | (go_at_call 74; refine (C2.out _).mono ?_; rintro e w2 ⟨⟨v, rfl, hv⟩, hb2⟩))
      go_ret2
      exact ⟨⟨_, rfl, hv⟩, (below_drewN _ (Below.refl w.heap.size w)).trans hb2⟩

end Go.Proofs.YtbcckgofoknmbaaDoor
