/-
  What the loop of the program's greatest common divisor asks of its callees: padding and applying, each in one contract.
-/
import Derived.Test.YtdjldhkmcmbiiaaDoorApplies
import Derived.Test.YtdjldhkmcmbiiaaDoorCopyW
import Derived.Test.YtdjldhkmcmbiiaaDoorWordW
import Derived.Test.YtdjldhkmcmbiiaaDoorDivNat
import Derived.Test.YtdjldhkmcmbiiaaDoorCmpWs
namespace Go.Proofs.YtdjldhkmcmbiiaaDoor
open Go.RowKit Num

/-- A row of n words that says x, at the head of a slice value that lies in block g. -/
def Says (w : World) (v : Value) (g n x : Nat) : Prop :=
  ∃ off cap zs, v = .slice (some ⟨g, off, none⟩) n cap ∧ n ≤ cap ∧ cap ≤ maxLen ∧ zs.length = n ∧ Dig WB zs ∧ val WB zs = x ∧ RowW 94 w g off zs

theorem Nums.says {w : World} {v : Value} {x g : Nat} (h : Nums 94 .u64 WB w v x) (h0 : 0 < ln WB x) (hg : v.ownBlock = some g) : Says w v g (ln WB x) x := by
  obtain ⟨g', off, cap, rfl, h1, h2, h3⟩ := h.row h0
  have : g' = g := by simpa [Value.ownBlock] using hg
  subst this
  exact ⟨off, cap, digs WB x, rfl, h1, h2, length_digs _ _, dig_digs WB WB_two x, val_digs WB WB_two x, h3⟩

theorem Says.below {w w' : World} {v : Value} {g n x B : Nat} (h : Says w v g n x) (hb : Below B w w') (hg : g < B) : Says w' v g n x := by
  obtain ⟨off, cap, zs, h1, h2, h3, h4, h5, h6, h7⟩ := h
  exact ⟨off, cap, zs, h1, h2, h3, h4, h5, h6, h7.below hb hg⟩

theorem Says.lt {w : World} {v : Value} {g n x : Nat} (h : Says w v g n x) : g < w.heap.size := by
  obtain ⟨off, cap, zs, h1, h2, h3, h4, h5, h6, h7⟩ := h
  exact h7.lt

/-- Trimming such a row. -/
theorem trim_says (w : World) (v : Value) (g n x : Nat) (h : Says w v g n x) :
    Calls Tryd.prog 102 #[v] w fun e w' => (∃ v', e = .returned v' ∧ Nums 94 .u64 WB w v' x ∧ v'.ownBlock = some g) ∧ w = w' := by
  obtain ⟨off, cap, zs, rfl, h2, h3, h4, h5, h6, h7⟩ := h
  have hr := h7.rowF (cap := cap) (by omega) h3
  rw [h4] at hr
  refine (trimW_at (.slice (some ⟨g, off, none⟩) n cap) zs w h5 (by rw [h4]; exact hr)).mono ?_
  rintro e w' ⟨⟨v', he, hn, ho⟩, hw⟩
  rw [h6] at hn
  exact ⟨⟨v', he, hn, ho⟩, hw⟩

theorem pad_says (w : World) (v : Value) (g L x : Nat) (h : Nums 94 .u64 WB w v x) (h0 : 0 < ln WB x) (hg : v.ownBlock = some g) (hL : ln WB x ≤ L) (hLb : L ≤ 2199023255552) :
    Calls Tryd.prog 119 #[v, .int .i64 (L : Nat)] w fun e w' => (∃ v' g', e = .returned v' ∧ Says w' v' g' L x ∧ (g' = g ∨ g' = w.heap.size)) ∧ Below w.heap.size w w' := by
  have hs := h.says h0 hg
  by_cases he : ln WB x = L
  · obtain ⟨off, cap, zs, rfl, hrest⟩ := hs
    subst he
    refine (padW_same _ _ _ _).mono ?_
    rintro e w' ⟨rfl, rfl⟩
    exact ⟨⟨_, g, rfl, ⟨off, cap, zs, rfl, hrest⟩, .inl rfl⟩, Below.refl _ _⟩
  · obtain ⟨A1, ca, rfl, _, _, _⟩ := RowF.open h
    refine (padW_more A1 _ ca L x w h rfl (by omega) hLb).mono ?_
    rintro e w' ⟨rfl, hr, hb⟩
    exact ⟨⟨_, w.heap.size, rfl, ⟨0, L, pad WB L x, rfl, Nat.le_refl _, by unfold maxLen; omega, pad_len WB L x hL, pad_dig WB L x WB_two, pad_val WB L x WB_two, hr⟩, .inr rfl⟩, hb⟩

theorem lead_says (w : World) (va vb : Value) (ga gb n m x y : Nat) (hm : n = m + 2) (hn : n ≤ 1099511627776) (ha : Says w va ga n x) (hb : Says w vb gb n y) (hle : y ≤ x) (htop : WB ^ (n - 1) ≤ x) :
    Calls Tryd.prog 120 #[va, vb] w fun e w' =>
      (∃ (u0 v0 u1 v1 : Nat) (neg : Bool), e = .returned (.agg #[.int .u64 (u0 : Nat), .int .u64 (v0 : Nat), .int .u64 (u1 : Nat), .int .u64 (v1 : Nat), .bool neg]) ∧ u0 < WB ∧ v0 < WB ∧ u1 < WB ∧ v1 < WB ∧ (v0 ≠ 0 → LehmOut x y neg u0 v0 u1 v1)) ∧ Below w.heap.size w w' := by
  obtain ⟨oa, ca, xs, rfl, _, _, a4, a5, a6, a7⟩ := ha
  obtain ⟨ob, cb, ys, rfl, _, _, b4, b5, b6, b7⟩ := hb
  have := lead_any ga oa ca gb ob cb n m xs ys w hm hn a7 b7 a4 b4 a5 b5 (by rw [a6, b6]; exact hle) (by rw [a6]; exact htop)
  rw [a6, b6] at this
  exact this

theorem apply_says (w : World) (va vb : Value) (ga gb n x y u0 v0 u1 v1 : Nat) (neg : Bool) (hn : n ≤ 1099511627776) (ha : Says w va ga n x) (hb : Says w vb gb n y) (hne : ga ≠ gb) (h1 : u0 < WB) (h2 : v0 < WB) (h3 : u1 < WB) (h4 : v1 < WB) (hle : y ≤ x) (hout : LehmOut x y neg u0 v0 u1 v1) :
    Calls Tryd.prog 121 #[.agg #[.int .u64 (u0 : Nat), .int .u64 (v0 : Nat), .int .u64 (u1 : Nat), .int .u64 (v1 : Nat), .bool neg], va, vb] w fun e w' =>
      (∃ r x' y', e = .returned r ∧ Says w' va ga n x' ∧ Says w' vb gb n y' ∧ y' < x' ∧ x' ≤ y ∧ Nat.gcd x' y' = Nat.gcd x y) ∧ (∀ B, B ≤ ga → B ≤ gb → Below B w w') := by
  obtain ⟨oa, ca, xs, rfl, k1, k2, a4, a5, a6, a7⟩ := ha
  obtain ⟨ob, cb, ys, rfl, k3, k4, b4, b5, b6, b7⟩ := hb
  obtain ⟨x', y', hlin, o1, o2, o3⟩ := hout
  have hxn : x < WB ^ n := by have := val_lt WB xs a5; rwa [a4, a6] at this
  subst a6 b6
  cases neg with
  | true =>
    simp only [if_true] at hlin
    refine (apply_swapped ga oa ca gb ob cb n xs ys u0 v0 u1 v1 x' y' w hn a7 b7 hne a4 b4 a5 b5 h1 h2 h3 h4 hlin.1 hlin.2 (by omega) (by omega)).mono ?_
    rintro e w' ⟨⟨r, az, bz, he, c1, c2, c3, c4, c5, c6, c7, c8⟩, hbl⟩
    exact ⟨⟨r, x', y', he, ⟨oa, ca, az, rfl, k1, k2, c1, c3, c5, c7⟩, ⟨ob, cb, bz, rfl, k3, k4, c2, c4, c6, c8⟩, o1, o2, o3⟩, hbl⟩
  | false =>
    simp only [Bool.false_eq_true, if_false] at hlin
    refine (apply_plain ga oa ca gb ob cb n xs ys u0 v0 u1 v1 x' y' w hn a7 b7 hne a4 b4 a5 b5 h1 h2 h3 h4 hlin.1 hlin.2 (by omega) (by omega)).mono ?_
    rintro e w' ⟨⟨r, az, bz, he, c1, c2, c3, c4, c5, c6, c7, c8⟩, hbl⟩
    exact ⟨⟨r, x', y', he, ⟨oa, ca, az, rfl, k1, k2, c1, c3, c5, c7⟩, ⟨ob, cb, bz, rfl, k3, k4, c2, c4, c6, c8⟩, o1, o2, o3⟩, hbl⟩

theorem clone_says (w : World) (v : Value) (x : Nat) (h : Nums 94 .u64 WB w v x) (h0 : 0 < ln WB x) (hlx : ln WB x ≤ 1099511627776) :
    Calls Tryd.prog 118 #[v] w fun e w' => (∃ v' g, e = .returned v' ∧ Nums 94 .u64 WB w' v' x ∧ v'.ownBlock = some g ∧ w.heap.size ≤ g ∧ g < w'.heap.size) ∧ Below w.heap.size w w' := by
  obtain ⟨A1, ca, rfl, _, _, _⟩ := RowF.open h
  refine (clone_any A1 _ ca x w h rfl h0 hlx).mono ?_
  rintro e w' ⟨⟨g, cap, rfl, h1, h2, h3, h4⟩, hb⟩
  exact ⟨⟨_, g, rfl, h4.rowF (by rw [length_digs]; exact h1) h2, rfl, h3, h4.lt⟩, hb⟩

end Go.Proofs.YtdjldhkmcmbiiaaDoor
