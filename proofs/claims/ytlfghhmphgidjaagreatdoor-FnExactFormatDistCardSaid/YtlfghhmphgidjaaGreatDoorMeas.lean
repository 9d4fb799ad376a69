/-
  The program's reading of a distribution: its values, its masses and their sum.
-/
import Derived.Test.YtlfghhmphgidjaaGreatDoorDistP
import Derived.Test.YtlfghhmphgidjaaGreatDoorLead
import Derived.RangeFuncBox
namespace Go.Proofs.YtlfghhmphgidjaaGreatDoor
open Go.RowKit Num

theorem isPV_any (v : Int) (w : World) :
    Calls Tryz.prog 120 #[.int .i64 v] w fun e w' => e = .returned (.bool (decide (-1000 ≤ v ∧ v ≤ 1000))) ∧ w = w' := by
  by_cases h1 : -1000 ≤ v
  · have e : decide (-1000 ≤ v ∧ v ≤ 1000) = decide (v ≤ 1000) := by simp [h1]
    rw [e]
    go_enter Tryz.func120, Tryz.ntmps120
    go_wp2_with fail
    all_goals first
      | (go_ret; exact ⟨rfl, rfl⟩)
      | (exfalso; omega)
  · have e : decide (-1000 ≤ v ∧ v ≤ 1000) = false := by simp [h1]
    rw [e]
    go_enter Tryz.func120, Tryz.ntmps120
    go_wp2_with fail
    all_goals first
      | (go_ret; exact ⟨rfl, rfl⟩)
      | (exfalso; omega)

theorem cmpI_le (x y : Nat) : decide (cmpI x y ≤ 0) = decide (x ≤ y) := by
  unfold cmpI
  by_cases h : x ≤ y
  · rw [decide_eq_true h, decide_eq_true_iff]
    split
    · omega
    · split <;> omega
  · rw [decide_eq_false h, decide_eq_false_iff_not, if_neg (by omega), if_pos (by omega)]
    omega

theorem isProb_any (b : Bool) (v1 v2 : Value) (N D : Nat) (w : World) (h1 : Nums 143 .u64 WB w v1 N) (h2 : Nums 143 .u64 WB w v2 D) :
    Calls Tryz.prog 89 #[.agg #[.bool b, v1, v2]] w fun e w' => e = .returned (.bool (!b && decide (N ≤ D))) ∧ Below w.heap.size w w' := by
  have hB := (Below.refl w.heap.size w).alloc (Nat.le_refl _) (.cells #[.bool b, v1, v2] 85)
  have C : Hid (∀ W, Below w.heap.size w W → _) := Lib.hid fun W hW => cmpW_any v1 v2 N D W (h1.below hW (Nat.le_refl _)) (h2.below hW (Nat.le_refl _))
  obtain ⟨z, hz⟩ : ∃ z, z = cmpI N D := ⟨_, rfl⟩
  have hzd : decide (z ≤ 0) = decide (N ≤ D) := by rw [hz]; exact cmpI_le N D
  rw [← hz] at C
  obtain ⟨dv, hdv⟩ : ∃ d, d = decide (N ≤ D) := ⟨_, rfl⟩
  rw [← hdv] at hzd ⊢
  obtain ⟨A1, c1, rfl, _, _, _⟩ := RowF.open h1
  obtain ⟨A2, c2, rfl, _, _, _⟩ := RowF.open h2
  obtain ⟨r0, r1, r2, _, _, _⟩ := (Box.new w 85 #[.bool b, .slice A1 (ln WB N) c1, .slice A2 (ln WB D) c2]).three
  clear h1 h2 hz hdv
  cases b with
  | true =>
    go_enter Tryz.func89, Tryz.ntmps89
    go_wp2_with fail
    go_ret
    exact ⟨rfl, hB⟩
  | false =>
    go_enter Tryz.func89, Tryz.ntmps89
    go_wp2_with (go_at_call 142; refine (C.out _ hB).mono ?_; rintro e w1 ⟨rfl, nq, rfl⟩)
    go_ret
    exact ⟨rfl, below_drewN _ hB⟩

section
variable {w : World} {g : Nat} {t : TypeId}
theorem Nums.put5 {t' : TypeId} {k : IntKind} {b' n : Nat} {vv : Value} {cs : Array Value} (hn : Nums t' k b' w vv n) (h : Box w g t cs) (hne : t' ≠ t) (x y z u v : Value) : Nums t' k b' (((((w.setCell ⟨g, 0, none⟩ x).setCell ⟨g, 1, none⟩ y).setCell ⟨g, 2, none⟩ z).setCell ⟨g, 3, none⟩ u).setCell ⟨g, 4, none⟩ v) vv n :=
  ((((hn.setCell (p := ⟨g, 0, none⟩) (hn.apart h hne) x).setCell (p := ⟨g, 1, none⟩) (hn.apart h hne) y).setCell (p := ⟨g, 2, none⟩) (hn.apart h hne) z).setCell (p := ⟨g, 3, none⟩) (hn.apart h hne) u).setCell (p := ⟨g, 4, none⟩) (hn.apart h hne) v
end

theorem own_below {w w' : World} {B base size : Nat} {e : TypeId} {v : Value} {n : Nat} {xs : List Value} (h : w.ownsRow base e size v n xs) (hb : Below B w w') (hB : w.heap.size ≤ B) : w'.ownsRow base e size v n xs := by
  refine ⟨h.1, ?_⟩
  rcases h.2 with h2 | ⟨b, cap, cur, rfl, h3, h4, h5⟩
  · exact .inl h2
  · exact .inr ⟨b, cap, cur, rfl, h3, (hb.block b (Nat.lt_of_lt_of_le (heap_lt h4) hB)).trans h4, h5⟩

theorem own_ne {w : World} {base size : Nat} {e : TypeId} {v : Value} {n : Nat} {xs : List Value} {b : Nat} {cs : Array Value} {t : TypeId} (h : w.ownsRow base e size v n xs) (hb : w.heap[b]? = some (.cells cs t (0, 0))) (hne : t ≠ e) : some b ≠ v.ownBlock := by
  rcases h.2 with ⟨rfl, _⟩ | ⟨b', cap, cur, rfl, h3, h4, h5⟩
  · simp [Value.ownBlock]
  · intro he
    have e' : b = b' := by simpa [Value.ownBlock] using he
    subst e'
    rw [h4] at hb
    injection hb with hb
    injection hb with _ ht
    exact hne ht.symm

theorem own_apart {w : World} {base size base' size' : Nat} {e e' : TypeId} {v v' : Value} {n n' : Nat} {xs xs' : List Value} (h : w.ownsRow base e size v n xs) (k : w.ownsRow base' e' size' v' n' xs') (hne : e ≠ e') : v.ownBlock = none ∨ v.ownBlock ≠ v'.ownBlock := by
  rcases h.2 with ⟨rfl, _⟩ | ⟨b, cap, cur, rfl, h3, h4, h5⟩
  · exact .inl rfl
  · exact .inr (own_ne k h4 hne)

theorem Box.grown {w w' : World} {g : Nat} {t : TypeId} {cs : Array Value} {row : Option Nat} (h : Box w g t cs) (hg : w.grownBy w' row) (hne : some g ≠ row) : Box w' g t cs := (hg.block g h.lt hne).trans h

theorem RowF.grown {t : TypeId} {k : IntKind} {w w' : World} {v : Value} {n : Nat} {d : Nat → Nat} {row : Option Nat} (h : RowF t k w v n d) (hg : w.grownBy w' row) (hne : ∀ b cs, w.heap[b]? = some (.cells cs t (0, 0)) → some b ≠ row) : RowF t k w' v n d := by
  rcases h with h | ⟨b, off, cap, rfl, h1, h2, ⟨cs, h3⟩, h4⟩
  · exact .inl h
  · have hb := hg.block b (heap_lt h3) (hne b cs h3)
    exact .inr ⟨b, off, cap, rfl, h1, h2, ⟨cs, hb.trans h3⟩, fun j hj => (World.cell?_of_block (a := ⟨b, off + j, none⟩) hb).trans (h4 j hj)⟩

theorem Nums.grown {t : TypeId} {k : IntKind} {b : Nat} {w w' : World} {v : Value} {x : Nat} {row : Option Nat} (h : Nums t k b w v x) (hg : w.grownBy w' row) (hne : ∀ b cs, w.heap[b]? = some (.cells cs t (0, 0)) → some b ≠ row) : Nums t k b w' v x := RowF.grown h hg hne

/-- The values of the first k points as cells. -/
def intL (F : Nat → Int × Bool × ByteArray × ByteArray) (k : Nat) : List Value := (List.range k).map fun j => .int .i64 (F j).1
theorem intL_succ (F : Nat → Int × Bool × ByteArray × ByteArray) (k : Nat) : intL F (k + 1) = intL F k ++ [.int .i64 (F k).1] := by simp [intL, List.range_succ]
theorem intL_at (F : Nat → Int × Bool × ByteArray × ByteArray) (k j : Nat) (hj : j < k) : (intL F k)[j]? = some (.int .i64 (F j).1) := by simp [intL, hj]

/-- The cells of k fractions, in a list. -/
def FracL (W : World) (xs : List Value) (G : Nat → Bool × Nat × Nat) (k : Nat) : Prop := xs.length = k * 3 ∧ ∀ j, j < k → ∃ vn vd, xs[j * 3]? = some (.bool (G j).1) ∧ xs[j * 3 + 1]? = some vn ∧ xs[j * 3 + 2]? = some vd ∧ Nums 143 .u64 WB W vn (G j).2.1 ∧ Nums 143 .u64 WB W vd (G j).2.2

theorem FracL.to {W W' : World} {xs : List Value} {G : Nat → Bool × Nat × Nat} {k : Nat} (h : FracL W xs G k) (hm : ∀ v x, Nums 143 .u64 WB W v x → Nums 143 .u64 WB W' v x) : FracL W' xs G k := by
  refine ⟨h.1, fun j hj => ?_⟩
  obtain ⟨vn, vd, c0, c1, c2, g1, g2⟩ := h.2 j hj
  exact ⟨vn, vd, c0, c1, c2, hm _ _ g1, hm _ _ g2⟩

theorem FracL.more {W : World} {xs : List Value} {G : Nat → Bool × Nat × Nat} {k : Nat} {sg : Bool} {vn vd : Value} (h : FracL W xs G k) (hs : sg = (G k).1) (hn : Nums 143 .u64 WB W vn (G k).2.1) (hd : Nums 143 .u64 WB W vd (G k).2.2) : FracL W (xs ++ [.bool sg, vn, vd]) G (k + 1) := by
  obtain ⟨hl, h⟩ := h
  refine ⟨by simp [hl]; omega, fun j hj => ?_⟩
  by_cases hjk : j < k
  · obtain ⟨un, ud, c0, c1, c2, g1, g2⟩ := h j hjk
    refine ⟨un, ud, ?_, ?_, ?_, g1, g2⟩
    · rw [List.getElem?_append_left (by omega)]; exact c0
    · rw [List.getElem?_append_left (by omega)]; exact c1
    · rw [List.getElem?_append_left (by omega)]; exact c2
  · obtain rfl : j = k := by omega
    refine ⟨vn, vd, ?_, ?_, ?_, hn, hd⟩
    · rw [List.getElem?_append_right (by omega), show j * 3 - xs.length = 0 by omega, hs]; rfl
    · rw [List.getElem?_append_right (by omega), show j * 3 + 1 - xs.length = 1 by omega]; rfl
    · rw [List.getElem?_append_right (by omega), show j * 3 + 2 - xs.length = 2 by omega]; rfl

/-- The two lists under way: k values and m masses, in blocks of their own behind block M. -/
def MeasAt (W : World) (M : Nat) (F : Nat → Int × Bool × ByteArray × ByteArray) (k m : Nat) (A1 : Option Addr) (c1 : Nat) (A2 : Option Addr) (c2 : Nat) : Prop :=
  W.ownsRow (M + 1) 3 1 (.slice A1 k c1) k (intL F k) ∧ ∃ xs, W.ownsRow (M + 1) 85 3 (.slice A2 m c2) m xs ∧ FracL W xs (massQ F) m

section
variable {W W' : World} {M : Nat} {F : Nat → Int × Bool × ByteArray × ByteArray} {k m : Nat} {A1 A2 : Option Addr} {c1 c2 : Nat}
theorem MeasAt.below {B : Nat} (h : MeasAt W M F k m A1 c1 A2 c2) (hb : Below B W W') (hB : W.heap.size ≤ B) : MeasAt W' M F k m A1 c1 A2 c2 := by
  obtain ⟨h1, xs, h2, h3⟩ := h
  exact ⟨own_below h1 hb hB, xs, own_below h2 hb hB, h3.to fun _ _ g => g.below hb hB⟩

theorem MeasAt.set (h : MeasAt W M F k m A1 c1 A2 c2) {g i : Nat} {t : TypeId} {cs : Array Value} (hx : Box W g t cs) (hg : g ≤ M) (hne : 143 ≠ t) (u : Value) : MeasAt (W.setCell ⟨g, i, none⟩ u) M F k m A1 c1 A2 c2 := by
  obtain ⟨h1, xs, h2, h3⟩ := h
  exact ⟨ownsRow_setCell_below h1 (show g < M + 1 by omega) u, xs, ownsRow_setCell_below h2 (show g < M + 1 by omega) u, h3.to fun _ _ q => q.setCell (p := ⟨g, i, none⟩) (q.apart hx hne) u⟩

theorem MeasAt.nums1 (h : MeasAt W M F k m A1 c1 A2 c2) {o : Obj} (hg : (W.alloc o).grownBy W' (Value.slice A1 k c1).ownBlock) {v : Value} {x : Nat} (q : Nums 143 .u64 WB W v x) : Nums 143 .u64 WB W' v x :=
  (q.below ((Below.refl W.heap.size W).alloc (Nat.le_refl _) o) (Nat.le_refl _)).grown hg fun _ _ hb => own_ne (h.1.alloc o) hb (by decide)

theorem MeasAt.nums2 (h : MeasAt W M F k m A1 c1 A2 c2) {o : Obj} (hg : (W.alloc o).grownBy W' (Value.slice A2 m c2).ownBlock) {v : Value} {x : Nat} (q : Nums 143 .u64 WB W v x) : Nums 143 .u64 WB W' v x := by
  obtain ⟨h1, xs, h2, h3⟩ := h
  exact (q.below ((Below.refl W.heap.size W).alloc (Nat.le_refl _) o) (Nat.le_refl _)).grown hg fun _ _ hb => own_ne (h2.alloc o) hb (by decide)

theorem MeasAt.box1 (h : MeasAt W M F k m A1 c1 A2 c2) {o : Obj} (hg : (W.alloc o).grownBy W' (Value.slice A1 k c1).ownBlock) {g : Nat} {t : TypeId} {cs : Array Value} (q : Box W g t cs) (hne : t ≠ 3) : Box W' g t cs :=
  (q.alloc o).grown hg (own_ne (h.1.alloc o) (q.alloc o) hne)

theorem MeasAt.box2 (h : MeasAt W M F k m A1 c1 A2 c2) {o : Obj} (hg : (W.alloc o).grownBy W' (Value.slice A2 m c2).ownBlock) {g : Nat} {t : TypeId} {cs : Array Value} (q : Box W g t cs) (hne : t ≠ 85) : Box W' g t cs := by
  obtain ⟨h1, xs, h2, h3⟩ := h
  exact (q.alloc o).grown hg (own_ne (h2.alloc o) (q.alloc o) hne)

theorem MeasAt.more1 (h : MeasAt W M F k m A1 c1 A2 c2) {o : Obj} (hg : (W.alloc o).grownBy W' (Value.slice A1 k c1).ownBlock) {A1' : Option Addr} {c1' : Nat} (ho : W'.ownsRow (M + 1) 3 1 (.slice A1' (k + 1) c1') (k + 1) (intL F k ++ [.int .i64 (F k).1])) : MeasAt W' M F (k + 1) m A1' c1' A2 c2 := by
  have hn : ∀ v x, Nums 143 .u64 WB W v x → Nums 143 .u64 WB W' v x := fun _ _ q => h.nums1 hg q
  obtain ⟨h1, xs, h2, h3⟩ := h
  exact ⟨by rw [intL_succ]; exact ho, xs, (h2.alloc o).kept hg (own_apart (h2.alloc o) (h1.alloc o) (by decide)), h3.to hn⟩

theorem MeasAt.more2 (h : MeasAt W M F k m A1 c1 A2 c2) {o : Obj} {xs : List Value} (hxs : FracL W xs (massQ F) m) (hg : (W.alloc o).grownBy W' (Value.slice A2 m c2).ownBlock) {A2' : Option Addr} {c2' : Nat} {sg : Bool} {vn vd : Value} (ho : W'.ownsRow (M + 1) 85 3 (.slice A2' (m + 1) c2') (m + 1) (xs ++ [.bool sg, vn, vd]))
    (hs : sg = (massQ F m).1) (gn : Nums 143 .u64 WB W vn (massQ F m).2.1) (gd : Nums 143 .u64 WB W vd (massQ F m).2.2) : MeasAt W' M F k (m + 1) A1 c1 A2' c2' := by
  have hn : ∀ v x, Nums 143 .u64 WB W v x → Nums 143 .u64 WB W' v x := fun _ _ q => h.nums2 hg q
  obtain ⟨h1, ys, h2, h3⟩ := h
  exact ⟨(h1.alloc o).kept hg (own_apart (h1.alloc o) (h2.alloc o) (by decide)), _, ho, (hxs.to hn).more hs (hn _ _ gn) (hn _ _ gd)⟩

theorem MeasAt.row1 (h : MeasAt W M F k m A1 c1 A2 c2) (j : Nat) (hj : (Value.slice A1 k c1).ownBlock = some j) : M < j := by
  have := (h.1.lt j hj).1
  omega
theorem MeasAt.row2 (h : MeasAt W M F k m A1 c1 A2 c2) (j : Nat) (hj : (Value.slice A2 m c2).ownBlock = some j) : M < j := by
  obtain ⟨h1, xs, h2, h3⟩ := h
  have := (h2.lt j hj).1
  omega

/-- n ints stand in a row from the address on. -/
def IntAt (w : World) (A : Option Addr) (n : Nat) (G : Nat → Int) : Prop :=
  0 < n → ∃ b off, A = some ⟨b, off, none⟩ ∧ b < w.heap.size ∧ ∀ j, j < n → w.cell? ⟨b, off + j, none⟩ = some (.int .i64 (G j))

theorem IntAt.below {B : Nat} {w w' : World} {A : Option Addr} {n : Nat} {G : Nat → Int} (h : IntAt w A n G) (hb : Below B w w') (hB : w.heap.size ≤ B) : IntAt w' A n G := fun h0 => by
  obtain ⟨b, off, rfl, h1, h2⟩ := h h0
  exact ⟨b, off, rfl, Nat.lt_of_lt_of_le h1 hb.size, fun j hj => (hb.cell (p := ⟨b, off + j, none⟩) (Nat.lt_of_lt_of_le h1 hB)).trans (h2 j hj)⟩

theorem MeasAt.ints (h : MeasAt W M F k m A1 c1 A2 c2) : IntAt W A1 k fun j => (F j).1 := fun h0 => by
  rcases h.1.2 with ⟨_, hk⟩ | ⟨b, cap, cur, he, h3, h4, h5⟩
  · omega
  · injection he with e1 _ _
    subst e1
    refine ⟨b, 0, rfl, heap_lt h4, fun j hj => ?_⟩
    have hz := h.1.cells (g := b) rfl j _ (intL_at F k j hj)
    have e : (⟨b, 0, none⟩ : Addr).add j = ⟨b, 0 + j, none⟩ := by unfold Addr.add; split <;> simp_all
    rw [e] at hz
    exact hz

theorem MeasAt.fracs (h : MeasAt W M F k m A1 c1 A2 c2) : FracAt W A2 m (massQ F) ∧ m ≤ c2 ∧ c2 ≤ 9223372036854775807 := by
  obtain ⟨h1, xs, h2, h3⟩ := h
  rcases h2.2 with ⟨he, hk⟩ | ⟨b, cap, cur, he, h4, h5, h6, h7, h8⟩
  · injection he with _ _ e3
    subst e3
    exact ⟨fun h0 => by omega, by omega, by omega⟩
  · injection he with e1 _ e3
    subst e1 e3
    refine ⟨fun h0 => ⟨b, 0, rfl, heap_lt h5, fun j hj => ?_⟩, h6, by unfold maxLen at h7; exact h7⟩
    obtain ⟨vn, vd, d0, d1, d2, g1, g2⟩ := h3.2 j hj
    have e : ∀ i, (⟨b, 0, none⟩ : Addr).add i = ⟨b, 0 + i, none⟩ := fun i => by unfold Addr.add; split <;> simp_all
    have z0 := h2.cells (g := b) rfl _ _ d0
    have z1 := h2.cells (g := b) rfl _ _ d1
    have z2 := h2.cells (g := b) rfl _ _ d2
    rw [e] at z0 z1 z2
    exact ⟨vn, vd, z0, by rw [← z1]; rfl, by rw [← z2]; rfl, g1, g2⟩
end

/-- What is handed back where there is no distribution. -/
def noMeas : Value := .tuple #[.agg #[.slice none 0 0, .slice none 0 0, .bool false, .slice none 0 0, .slice none 0 0], .bool false]

/-- What measureOfDist owes. -/
def MeasPost (w : World) (F : Nat → Int × Bool × ByteArray × ByteArray) (n : Nat) (e : Ending) (w' : World) : Prop :=
  (if distOk F n = true then ∃ A1 c1 A2 c2 A3 l3 c3 A4 l4 c4, e = .returned (.tuple #[.agg #[.slice A1 n c1, .slice A2 n c2, .bool false, .slice A3 l3 c3, .slice A4 l4 c4], .bool true]) ∧ IntAt w' A1 n (fun j => (F j).1) ∧ FracAt w' A2 n (massQ F) ∧ n ≤ c2 ∧ c2 ≤ 9223372036854775807 ∧
      Nums 143 .u64 WB w' (.slice A3 l3 c3) (total F n).2.1 ∧ Nums 143 .u64 WB w' (.slice A4 l4 c4) (total F n).2.2
    else e = .returned noMeas) ∧ Below w.heap.size w w'

theorem meas_bad {w w' : World} {F : Nat → Int × Bool × ByteArray × ByteArray} {n : Nat} {e : Ending} (h : distOk F n = false) (he : e = .returned noMeas) (hb : Below w.heap.size w w') : MeasPost w F n e w' :=
  ⟨by rw [if_neg (by rw [h]; decide)]; exact he, hb⟩

theorem distOk_bad {F : Nat → Int × Bool × ByteArray × ByteArray} {k n : Nat} (hk : k < n) (h : ptOk F k = false) : distOk F n = false := by
  unfold distOk
  rw [ptsOk_up (show k + 1 ≤ n by omega) (show (ptsOk F k && ptOk F k) = false by rw [h, Bool.and_false]), Bool.and_false, Bool.false_and]

theorem one_frac (b : Bool) (A1 : Option Addr) (n1 c1 : Nat) (A2 : Option Addr) (n2 c2 : Nat) : ∀ u ∈ [Value.bool b, .slice A1 n1 c1, .slice A2 n2 c2], u.oneCell' = true := by
  intro u hu
  simp at hu
  rcases hu with rfl | rfl | rfl <;> rfl
theorem cells_frac_new (w : World) (t : TypeId) (x y z : Value) : ∀ j u, [x, y, z][j]? = some u → (w.alloc (.cells #[x, y, z] t)).cell? ((⟨w.heap.size, 0, none⟩ : Addr).add j) = some u := by
  intro j u hu
  obtain ⟨h0, h1, h2, _⟩ := (Box.new w t #[x, y, z]).three
  have hz : ∀ j, (⟨w.heap.size, 0, none⟩ : Addr).add j = ⟨w.heap.size, j, none⟩ := fun j => by unfold Addr.add; split <;> simp_all
  rw [hz]
  match j, hu with
  | 0, hu => cases hu; exact h0
  | 1, hu => cases hu; exact h1
  | 2, hu => cases hu; exact h2

set_option maxRecDepth 100000 in
set_option maxHeartbeats 6400000 in
theorem meas_any (A0 : Option Addr) (n cap : Nat) (F : Nat → Int × Bool × ByteArray × ByteArray) (w : World) (hn : n ≤ 1048576) (hA : PtAt w A0 n F) (hs : ∀ j, j < n → (F j).2.2.1.size ≤ 9223372036854775807 ∧ (F j).2.2.2.size ≤ 9223372036854775807) (hU : UnitB w) (hT : Tab64 w) :
    Calls Tryz.prog 65 #[.agg #[.slice A0 n cap]] w fun e w' => MeasPost w F n e w' := by
  have HA := Lib.hid hA; clear hA
  have HS := Lib.hid hs; clear hs
  have HU := Lib.hid hU; clear hU
  have HT := Lib.hid hT; clear hT
  obtain ⟨i0, ji, jz0, jz1, jz2⟩ := info_parts Tryz.info_int
  obtain ⟨i9, ki, kz0, kz1, kz2⟩ := info_parts Tryz.infoFrac
  have e0 : ∀ (W : World) (o : Obj), (W.alloc o).heap.size = W.heap.size + 1 := fun W o => by simp
  have hD := (Box.new w 32 #[.slice A0 n cap]).alloc (.cells #[.slice none 0 0, .slice none 0 0, .bool false, .slice none 0 0, .slice none 0 0] 87)
  have hR := Box.new (w.alloc (.cells #[.slice A0 n cap] 32)) 87 #[.slice none 0 0, .slice none 0 0, .bool false, .slice none 0 0, .slice none 0 0]
  have hB := ((Below.refl w.heap.size w).alloc (Nat.le_refl _) (.cells #[.slice A0 n cap] 32)).alloc (by simp) (.cells #[.slice none 0 0, .slice none 0 0, .bool false, .slice none 0 0, .slice none 0 0] 87)
  rw [e0] at hR
  have hd0 := hD.cell 0
  by_cases hn6 : n ≤ 60
  · have hd : decide ((60 : Int) < (n : Int)) = false := decide_eq_false (by omega)
    have hM := Box.new ((w.alloc (.cells #[.slice A0 n cap] 32)).alloc (.cells #[.slice none 0 0, .slice none 0 0, .bool false, .slice none 0 0, .slice none 0 0] 87)) 87 #[.slice none 0 0, .slice none 0 0, .bool false, .slice none 0 0, .slice none 0 0]
    rw [e0, e0] at hM
    replace hD := hD.alloc (.cells #[.slice none 0 0, .slice none 0 0, .bool false, .slice none 0 0, .slice none 0 0] 87)
    replace hR := hR.alloc (.cells #[.slice none 0 0, .slice none 0 0, .bool false, .slice none 0 0, .slice none 0 0] 87)
    replace hB := hB.alloc (by simp; omega) (.cells #[.slice none 0 0, .slice none 0 0, .bool false, .slice none 0 0, .slice none 0 0] 87)
    have hd1 := hD.cell 0
    clear e0
    go_enter Tryz.func65, Tryz.ntmps65
    go_wp2_with fail
    clear hd0 hd1
    go_loopg [17] n (fun q iv wr => ∃ (k : Nat) (A1 : Option Addr) (c1 : Nat) (A2 : Option Addr) (c2 : Nat), k + q = n ∧ iv = .int .i64 (k : Nat) ∧ ptsOk F k = true ∧ Box wr (w.heap.size + 1 + 1) 87 #[.slice A1 k c1, .slice A2 k c2, .bool false, .slice none 0 0, .slice none 0 0] ∧ Box wr (w.heap.size + 1) 87 #[.slice none 0 0, .slice none 0 0, .bool false, .slice none 0 0, .slice none 0 0] ∧ Box wr w.heap.size 32 #[.slice A0 n cap] ∧ MeasAt wr (w.heap.size + 1 + 1) F k k A1 c1 A2 c2 ∧ Below w.heap.size w wr)
    case atStart => exact ⟨0, none, 0, none, 0, by omega, rfl, rfl, hM, hR, hD, ⟨World.ownsRow_nil _ _ _ _, [], World.ownsRow_nil _ _ _ _, rfl, fun j hj => absurd hj (Nat.not_lt_zero j)⟩, hB⟩
    case round =>
      obtain ⟨k, A1, c1, A2, c2, hkq, rfl, hok, hMr, hRr, hDr, hme, hbel⟩ := hrel
      have HOK := Lib.hid hok; clear hok
      have HM := Lib.hid hme; clear hme
      clear hM hR hD hB
      by_cases hk0 : k < n
      · have hAw : PtAt wr A0 n F := HA.out.below hbel (Nat.le_refl _)
        obtain ⟨b, off, rfl, hb, r0, r1, r2, r3⟩ := hAw.at_ hk0
        obtain ⟨s1, s2⟩ := HS.out k hk0
        have hpt : ptOk F k = (decide (-1000 ≤ (F k).1 ∧ (F k).1 ≤ 1000) && !(decide (0 < k) && decide ((F k).1 ≤ (F (k - 1)).1)) && validR (F k).2.1 (F k).2.2.1 (F k).2.2.2 && !(F k).2.1 && !decide (numOf (F k).2.2.1 = 0)) := rfl
        have hqk : massQ F k = ((F k).2.1, numOf (F k).2.2.1, numOf (F k).2.2.2) := rfl
        have hvk : (F k).1 = (F k).1 := rfl
        obtain ⟨⟨v, rb, rx, ry⟩, hF⟩ : ∃ t, t = F k := ⟨_, rfl⟩
        have hvF : (F k).1 = v := by rw [← hF]
        rw [← hF] at r0 r1 r2 r3 s1 s2 hpt hqk
        simp only at r0 r1 r2 r3 s1 s2 hpt hqk
        clear hvk
        obtain ⟨m, hm⟩ : ∃ m, m = k - 1 := ⟨_, rfl⟩
        rw [← hm] at hpt
        obtain ⟨pv, hpv⟩ : ∃ p, p = (F m).1 := ⟨_, rfl⟩
        rw [← hpv] at hpt
        obtain ⟨i1, h1⟩ : ∃ c, c = decide (-1000 ≤ v ∧ v ≤ 1000) := ⟨_, rfl⟩
        obtain ⟨d, hd⟩ : ∃ c, c = decide (0 < k) := ⟨_, rfl⟩
        obtain ⟨i2, h2⟩ : ∃ c, c = decide (v ≤ pv) := ⟨_, rfl⟩
        obtain ⟨i3, h3⟩ : ∃ c, c = validR rb rx ry := ⟨_, rfl⟩
        obtain ⟨i5, h5⟩ : ∃ c, c = decide (numOf rx = 0) := ⟨_, rfl⟩
        have CF : Hid (∀ W, Below w.heap.size w W → _) := Lib.hid fun W hW => fracOf_all rb rx ry W s1 s2 (HU.out.below hW) (HT.out.below hW)
        have CZ : Hid (∀ (u1 u2 : Value) W, Nums 143 .u64 WB W u1 (numOf rx) → Nums 143 .u64 WB W u2 (numOf ry) → _) := Lib.hid fun u1 u2 W g1 g2 => isZero_any rb u1 u2 (numOf rx) (numOf ry) W g1 g2
        have CP : Hid (∀ W, _) := Lib.hid fun W => isPV_any v W
        have hdI : decide ((0 : Int) < (k : Int)) = d := by rw [hd, Bool.eq_iff_iff, decide_eq_true_iff, decide_eq_true_iff]; omega
        have hdN : decide (0 < k) = d := hd.symm
        have hw1 : d = true → IntKind.i64.wrap ((k : Int) - 1) = (m : Int) := fun e => by rw [hd, decide_eq_true_iff] at e; rw [IntWalk.i64_in _ (by omega)]; omega
        have hmn : m < n := by omega
        rw [← h1, ← hd, ← h2, ← h3, ← h5] at hpt
        rw [← h1] at CP
        rw [← h3] at CF
        rw [← h5] at CZ
        have Hpt := Lib.hid hpt
        have hfail : Hid (ptOk F k = false → distOk F n = false) := Lib.hid fun h => distOk_bad hk0 h
        have hgo : Hid (ptOk F k = true → ptsOk F (k + 1) = true) := Lib.hid fun h => show (ptsOk F k && ptOk F k) = true by rw [HOK.out, h]; rfl
        have hal := (Below.refl wr.heap.size wr).alloc (Nat.le_refl _) (.cells #[.int .i64 v, .bool rb, .string rx, .string ry] 93)
        have hX := Box.new wr 93 #[.int .i64 v, .bool rb, .string rx, .string ry]
        replace hMr := hMr.below hal hMr.lt
        replace hRr := hRr.below hal hRr.lt
        replace hDr := hDr.below hal hDr.lt
        have HA2 := Lib.hid (hAw.below hal (Nat.le_refl _))
        replace HM := Lib.hid (HM.out.below hal (Nat.le_refl _))
        replace hbel := hbel.trans (hal.mono hbel.size)
        obtain ⟨x0, x1, x2, x3, _, _, _, _⟩ := hX.four
        have Hqk := Lib.hid hqk
        have HvF := Lib.hid hvF
        have Hpv := Lib.hid hpv
        have g1 : (0 : Int) ≤ (m : Int) := by omega
        have g2 : (m : Int) < (n : Int) := by omega
        have H2 := Lib.hid h2
        have Hw1 := Lib.hid hw1
        clear hpt hAw hal hb h1 h3 h5 hF s1 s2 hqk hvF hpv hd hm h2 hw1
        cases i3 with
        | false =>
          go_wp2_with (go_at_call 88; refine (CF.out _ hbel).mono ?_; rintro e w2 ⟨he, hb2⟩; simp only [Bool.false_eq_true, if_false] at he; subst he; unfold noFrac; replace hRr := hRr.below hb2 hRr.lt; replace hbel := hbel.trans (hb2.mono hbel.size); replace hRr := hRr.alloc (.cells #[.bool false, .slice none 0 0, .slice none 0 0] 85); replace hbel := hbel.alloc hbel.size (.cells #[.bool false, .slice none 0 0, .slice none 0 0] 85); obtain ⟨⟨z0, z1, z2, z3, z4⟩, f0, f1, f2, f3, f4⟩ := hRr.five)
          have hq5 := hRr.put5 (.slice none 0 0) (.slice none 0 0) (.bool false) (.slice none 0 0) (.slice none 0 0)
          obtain ⟨⟨m0, m1, m2, m3, m4⟩, _⟩ := Box.five hq5
          refine bodyPost_ret (v := noMeas) (by simp [results, Tryz.results65, go_sem, noMeas, m0, m1, m2, m3, m4]; done) rfl (meas_bad (hfail.out (by rw [Hpt.out]; simp)) rfl ?_)
          exact below_put5 hbel (by omega) _ _ _ _ _
        | true =>
          go_upto_region 8 with (go_at_call 88; refine (CF.out _ hbel).mono ?_; rintro e w2 ⟨he, hb2⟩; simp only [if_true] at he; obtain ⟨vn, vd, rfl, hvn, hvd⟩ := he; obtain ⟨A5, c5, rfl, _, _, _⟩ := RowF.open hvn; obtain ⟨A6, c6, rfl, _, _, _⟩ := RowF.open hvd)
          have hal := (Below.refl w2.heap.size w2).alloc (Nat.le_refl _) (.cells #[.bool rb, .slice A5 (ln WB (numOf rx)) c5, .slice A6 (ln WB (numOf ry)) c6] 85)
          have hY := Box.new w2 85 #[.bool rb, .slice A5 (ln WB (numOf rx)) c5, .slice A6 (ln WB (numOf ry)) c6]
          have hMw := (hMr.below hb2 hMr.lt).lt
          replace hMr := (hMr.below hb2 hMr.lt).below hal (Nat.lt_of_lt_of_le hMr.lt hb2.size)
          replace hRr := (hRr.below hb2 hRr.lt).below hal (Nat.lt_of_lt_of_le hRr.lt hb2.size)
          replace hDr := (hDr.below hb2 hDr.lt).below hal (Nat.lt_of_lt_of_le hDr.lt hb2.size)
          replace hX := (hX.below hb2 hX.lt).below hal (Nat.lt_of_lt_of_le hX.lt hb2.size)
          replace HA2 := Lib.hid ((HA2.out.below hb2 (Nat.le_refl _)).below hal (Nat.le_refl _))
          replace HM := Lib.hid ((HM.out.below hb2 (Nat.le_refl _)).below hal (Nat.le_refl _))
          replace hbel := (hbel.trans (hb2.mono hbel.size)).trans (hal.mono (hbel.trans (hb2.mono hbel.size)).size)
          have Hn := Lib.hid (hvn.below hal (Nat.le_refl _))
          have Hd := Lib.hid (hvd.below hal (Nat.le_refl _))
          obtain ⟨Y, hYd⟩ : ∃ Y, Y = w2.heap.size := ⟨_, rfl⟩
          obtain ⟨X, hXd⟩ : ∃ X, X = wr.heap.size := ⟨_, rfl⟩
          have HY := Lib.hid (show w.heap.size + 1 + 1 < Y by rw [hYd]; exact hMw)
          rw [← hYd] at hY ⊢
          rw [← hXd] at hX ⊢
          obtain ⟨W, hW⟩ : ∃ W, W = w2.alloc (.cells #[.bool rb, .slice A5 (ln WB (numOf rx)) c5, .slice A6 (ln WB (numOf ry)) c6] 85) := ⟨_, rfl⟩
          rw [← hW] at hY hMr hRr hDr hX HA2 HM hbel Hn Hd ⊢
          clear hW hYd hXd hMw hal hb2 hvn hvd r0 r1 r2 r3 x0 x1 x2 x3
          obtain ⟨x0, x1, x2, x3, _, _, _, _⟩ := hX.four
          obtain ⟨y0, y1, y2, _, _, _⟩ := hY.three
          obtain ⟨⟨z0, z1, z2, z3, z4⟩, f0, f1, f2, f3, f4⟩ := hRr.five
          cases rb with
          | true =>
            go_wp2_with fail
            have hq5 := hRr.put5 (.slice none 0 0) (.slice none 0 0) (.bool false) (.slice none 0 0) (.slice none 0 0)
            obtain ⟨⟨m0, m1, m2, m3, m4⟩, _⟩ := Box.five hq5
            refine bodyPost_ret (v := noMeas) (by simp [results, Tryz.results65, go_sem, noMeas, m0, m1, m2, m3, m4]; done) rfl (meas_bad (hfail.out (by rw [Hpt.out]; simp)) rfl ?_)
            exact below_put5 hbel (by omega) _ _ _ _ _
          | false =>
            cases i5 with
            | true =>
              go_wp2_with (go_at_call 80; refine (CZ.out _ _ _ Hn.out Hd.out).mono ?_; rintro e w4 ⟨rfl, hb4⟩; replace hRr := hRr.below hb4 hRr.lt; replace hbel := hbel.trans (hb4.mono hbel.size); obtain ⟨⟨z0, z1, z2, z3, z4⟩, f0, f1, f2, f3, f4⟩ := hRr.five)
              have hq5 := hRr.put5 (.slice none 0 0) (.slice none 0 0) (.bool false) (.slice none 0 0) (.slice none 0 0)
              obtain ⟨⟨m0, m1, m2, m3, m4⟩, _⟩ := Box.five hq5
              refine bodyPost_ret (v := noMeas) (by simp [results, Tryz.results65, go_sem, noMeas, m0, m1, m2, m3, m4]; done) rfl (meas_bad (hfail.out (by rw [Hpt.out]; simp)) rfl ?_)
              exact below_put5 hbel (by omega) _ _ _ _ _
            | false =>
              cases i1 with
              | false =>
                go_wp2_with (first
                  | (go_at_call 80; refine (CZ.out _ _ _ Hn.out Hd.out).mono ?_; rintro e w4 ⟨rfl, hb4⟩; replace hRr := hRr.below hb4 hRr.lt; replace hX := hX.below hb4 hX.lt; replace hbel := hbel.trans (hb4.mono hbel.size); obtain ⟨⟨z0, z1, z2, z3, z4⟩, f0, f1, f2, f3, f4⟩ := hRr.five; obtain ⟨x0, x1, x2, x3, _, _, _, _⟩ := hX.four)
                  | (go_at_call 120; refine (CP.out _).mono ?_; rintro e w5 ⟨rfl, rfl⟩))
                have hq5 := hRr.put5 (.slice none 0 0) (.slice none 0 0) (.bool false) (.slice none 0 0) (.slice none 0 0)
                obtain ⟨⟨m0, m1, m2, m3, m4⟩, _⟩ := Box.five hq5
                refine bodyPost_ret (v := noMeas) (by simp [results, Tryz.results65, go_sem, noMeas, m0, m1, m2, m3, m4]; done) rfl (meas_bad (hfail.out (by rw [Hpt.out]; simp)) rfl ?_)
                exact below_put5 hbel (by omega) _ _ _ _ _
              | true =>
                go_upto_region 10 with (first
                  | (go_at_call 80; refine (CZ.out _ _ _ Hn.out Hd.out).mono ?_; rintro e w4 ⟨rfl, hb4⟩; have hX4 := hX.below hb4 hX.lt; obtain ⟨x0, x1, x2, x3, _, _, _, _⟩ := hX4.four)
                  | (go_at_call 120; refine (CP.out _).mono ?_; rintro e w5 ⟨rfl, rfl⟩))
                clear hX4 x0 x1 x2 x3 y0 y1 y2 z0 z1 z2 z3 z4 f0 f1 f2 f3 f4
                replace hRr := hRr.below hb4 hRr.lt
                replace hMr := hMr.below hb4 hMr.lt
                replace hDr := hDr.below hb4 hDr.lt
                replace hX := hX.below hb4 hX.lt
                replace hY := hY.below hb4 hY.lt
                replace HA2 := Lib.hid (HA2.out.below hb4 (Nat.le_refl _))
                replace HM := Lib.hid (HM.out.below hb4 (Nat.le_refl _))
                replace Hn := Lib.hid (Hn.out.below hb4 (Nat.le_refl _))
                replace Hd := Lib.hid (Hd.out.below hb4 (Nat.le_refl _))
                replace hbel := hbel.trans (hb4.mono hbel.size)
                clear hb4
                obtain ⟨x0, x1, x2, x3, _, _, _, _⟩ := hX.four
                obtain ⟨y0, y1, y2, _, _, _⟩ := hY.three
                obtain ⟨⟨z0, z1, z2, z3, z4⟩, f0, f1, f2, f3, f4⟩ := hRr.five
                have hd0 := hDr.cell 0
                have hp0 : w4.cell? ⟨b, off + m * 4, none⟩ = some (.int .i64 pv) := by rw [Hpv.out]; exact (HA2.out.cells hmn).1
                have h2 := H2.out
                have hcase : (d = true ∧ i2 = true) ∨ (d && i2) = false := by cases d <;> cases i2 <;> simp
                rcases hcase with ⟨rfl, rfl⟩ | hdi
                · skip
                  have hw1 := Hw1.out rfl
                  replace h2 := h2.symm
                  go_quiet (fail)
                  go_wp2_with fail
                  generalize hW : World.drewN w4 _ = W5
                  have hR5 : Box W5 (w.heap.size + 1) 87 #[.slice none 0 0, .slice none 0 0, .bool false, .slice none 0 0, .slice none 0 0] := by rw [← hW]; exact hRr
                  have hb5 : Below w.heap.size w W5 := by rw [← hW]; exact below_drewN _ hbel
                  clear hW
                  have hq5 := hR5.put5 (.slice none 0 0) (.slice none 0 0) (.bool false) (.slice none 0 0) (.slice none 0 0)
                  obtain ⟨⟨m0, m1, m2, m3, m4⟩, _⟩ := Box.five hq5
                  refine bodyPost_ret (v := noMeas) (by simp [results, Tryz.results65, go_sem, noMeas, m0, m1, m2, m3, m4]; done) rfl (meas_bad (hfail.out (by rw [Hpt.out]; simp)) rfl ?_)
                  exact below_put5 hb5 (by omega) _ _ _ _ _
                · have Hgo := Lib.hid (hgo.out (by rw [Hpt.out, hdi]; simp))
                  have hreg : d = false ∨ (d = true ∧ decide (v ≤ pv) = false) := by
                    cases d
                    · exact .inl rfl
                    · exact .inr ⟨rfl, by rw [← h2]; simpa using hdi⟩
                  clear hgo Hpt hfail h2 hdi z0 z1 z2 z3 z4 f0 f1 f2 f3 f4
                  rcases hreg with rfl | ⟨rfl, hvp⟩
                  · skip
                    go_quiet (fail)
                    go_upto_region 12 with fail
                    generalize hW : World.drewN w4 _ = W5
                    have hM5 : Box W5 (w.heap.size + 1 + 1) 87 #[.slice A1 k c1, .slice A2 k c2, .bool false, .slice none 0 0, .slice none 0 0] := by rw [← hW]; exact hMr
                    have hR5 : Box W5 (w.heap.size + 1) 87 #[.slice none 0 0, .slice none 0 0, .bool false, .slice none 0 0, .slice none 0 0] := by rw [← hW]; exact hRr
                    have hD5 : Box W5 w.heap.size 32 #[.slice (some ⟨b, off, none⟩) n cap] := by rw [← hW]; exact hDr
                    have hX5 : Box W5 X 93 #[.int .i64 v, .bool false, .string rx, .string ry] := by rw [← hW]; exact hX
                    have hY5 : Box W5 Y 85 #[.bool false, .slice A5 (ln WB (numOf rx)) c5, .slice A6 (ln WB (numOf ry)) c6] := by rw [← hW]; exact hY
                    have hdr : Below w4.heap.size w4 W5 := by rw [← hW]; exact below_drewN _ (Below.refl _ w4)
                    clear hW hMr hRr hDr hX hY hd0 hp0 x0 x1 x2 x3 y0 y1 y2
                    replace HM := Lib.hid (HM.out.below hdr (Nat.le_refl _))
                    replace Hn := Lib.hid (Hn.out.below hdr (Nat.le_refl _))
                    replace Hd := Lib.hid (Hd.out.below hdr (Nat.le_refl _))
                    replace hbel := hbel.trans (hdr.mono hbel.size)
                    clear hdr HA2
                    have hM0 := hM5.cell 0
                    have hMf := hM5.free 0
                    have hX0 := hX5.cell 0
                    go_upto_region 13 with (at_builtin; refine wpList_append_own _ rfl _ _ 39 rfl (w.heap.size + 1 + 1 + 1) 3 i0 (.int .i64 0) 1 8 Tryz.underlying39 ji jz0 jz1 jz2 rfl (by decide) _ k _ rfl (HM.out.1.alloc _) ⟨W5.heap.size, 0, none⟩ 1 1 [.int .i64 v] rfl rfl (cell_one_new _ _ _) (one_int _ _) (by unfold maxLen; omega) (by omega) (by have := hM5.lt; simp; omega) ?_; intro v6 w6 hown6 hgrow6 _; obtain ⟨g6, cap6, rfl⟩ := ownsRow_succ hown6; have hM6 := HM.out.box1 hgrow6 hM5 (by decide); have hM60 := hM6.cell 0; have hM6f := hM6.free 0)
                    have hR6 := HM.out.box1 hgrow6 hR5 (by decide)
                    have hD6 := HM.out.box1 hgrow6 hD5 (by decide)
                    have hY6 := HM.out.box1 hgrow6 hY5 (by decide)
                    have hn6' := HM.out.nums1 hgrow6 Hn.out
                    have hd6' := HM.out.nums1 hgrow6 Hd.out
                    have hb6 := (hbel.alloc hbel.size (.cells #[.int .i64 v] 3)).grown hgrow6 (by have := hbel.size; simp; omega) (fun j hj => by have := HM.out.row1 j hj; omega)
                    have hme6 := HM.out.more1 hgrow6 (by rw [HvF.out]; exact hown6)
                    have hYlt := HY.out
                    have hM7 : Box _ (w.heap.size + 1 + 1) 87 #[.slice (some ⟨g6, 0, none⟩) (k + 1) cap6, .slice A2 k c2, .bool false, .slice none 0 0, .slice none 0 0] := hM6.set 0 (.slice (some ⟨g6, 0, none⟩) (k + 1) cap6)
                    have hR7 := hR6.far (show w.heap.size + 1 + 1 ≠ w.heap.size + 1 by omega) 0 (.slice (some ⟨g6, 0, none⟩) (k + 1) cap6)
                    have hD7 := hD6.far (show w.heap.size + 1 + 1 ≠ w.heap.size by omega) 0 (.slice (some ⟨g6, 0, none⟩) (k + 1) cap6)
                    have hY7 := hY6.far (show w.heap.size + 1 + 1 ≠ Y by omega) 0 (.slice (some ⟨g6, 0, none⟩) (k + 1) cap6)
                    have hme7 := hme6.set (i := 0) hM6 (Nat.le_refl _) (by decide) (.slice (some ⟨g6, 0, none⟩) (k + 1) cap6)
                    have hn7 := hn6'.setCell (p := ⟨w.heap.size + 1 + 1, 0, none⟩) (hn6'.apart hM6 (by decide)) (.slice (some ⟨g6, 0, none⟩) (k + 1) cap6)
                    have hd7 := hd6'.setCell (p := ⟨w.heap.size + 1 + 1, 0, none⟩) (hd6'.apart hM6 (by decide)) (.slice (some ⟨g6, 0, none⟩) (k + 1) cap6)
                    have hb7 := hb6.setCell (p := ⟨w.heap.size + 1 + 1, 0, none⟩) (by show w.heap.size ≤ w.heap.size + 1 + 1; omega) (.slice (some ⟨g6, 0, none⟩) (k + 1) cap6)
                    generalize hW : World.setCell _ _ _ = W7 at hM7 hR7 hD7 hY7 hme7 hn7 hd7 hb7 ⊢
                    clear hW hM6 hR6 hD6 hY6 hn6' hd6' hb6 hme6 hM5 hR5 hD5 hX5 hY5 HM Hn Hd hbel hown6 hgrow6 hM0 hMf hX0 hM60 hM6f
                    obtain ⟨hrow1, xs, hrow2, hxs⟩ := hme7
                    have hme7 : MeasAt W7 (w.heap.size + 1 + 1) F (k + 1) k _ _ _ _ := ⟨hrow1, xs, hrow2, hxs⟩
                    have Hme := Lib.hid hme7
                    have Hxs := Lib.hid hxs
                    have Hn7 := Lib.hid hn7
                    have Hd7 := Lib.hid hd7
                    clear hme7 hxs hn7 hd7 hrow1
                    have hM1 := hM7.cell 1
                    obtain ⟨y0, y1, y2, _, _, _⟩ := hY7.three
                    go_wp2_with (at_builtin; refine wpList_append_own _ rfl _ _ 81 rfl (w.heap.size + 1 + 1 + 1) 85 i9 (.agg #[.bool false, .slice none 0 0, .slice none 0 0]) 3 56 Tryz.underlying81 ki kz0 kz1 kz2 rfl (by decide) _ k _ rfl (hrow2.alloc _) ⟨W7.heap.size, 0, none⟩ 1 1 [.bool false, .slice A5 (ln WB (numOf rx)) c5, .slice A6 (ln WB (numOf ry)) c6] rfl rfl (cells_frac_new _ _ _ _ _) (one_frac _ _ _ _ _ _ _) (by unfold maxLen; omega) (by omega) (by have := hM7.lt; simp; omega) ?_; intro v8 w8 hown8 hgrow8 _; obtain ⟨g8, cap8, rfl⟩ := ownsRow_succ hown8; have hM8 := Hme.out.box2 hgrow8 hM7 (by decide); have hM81 := hM8.cell 1; have hM8f := hM8.free 1)
                    have hR8 := Hme.out.box2 hgrow8 hR7 (by decide)
                    have hD8 := Hme.out.box2 hgrow8 hD7 (by decide)
                    have hb8 := (hb7.alloc hb7.size (.cells #[.bool false, .slice A5 (ln WB (numOf rx)) c5, .slice A6 (ln WB (numOf ry)) c6] 85)).grown hgrow8 (by have := hb7.size; simp; omega) (fun j hj => by have := Hme.out.row2 j hj; omega)
                    have hme8 := Hme.out.more2 Hxs.out hgrow8 hown8 (by rw [Hqk.out]) (by rw [Hqk.out]; exact Hn7.out) (by rw [Hqk.out]; exact Hd7.out)
                    have hM9 : Box _ (w.heap.size + 1 + 1) 87 #[.slice (some ⟨g6, 0, none⟩) (k + 1) cap6, .slice (some ⟨g8, 0, none⟩) (k + 1) cap8, .bool false, .slice none 0 0, .slice none 0 0] := hM8.set 1 (.slice (some ⟨g8, 0, none⟩) (k + 1) cap8)
                    have hR9 := hR8.far (show w.heap.size + 1 + 1 ≠ w.heap.size + 1 by omega) 1 (.slice (some ⟨g8, 0, none⟩) (k + 1) cap8)
                    have hD9 := hD8.far (show w.heap.size + 1 + 1 ≠ w.heap.size by omega) 1 (.slice (some ⟨g8, 0, none⟩) (k + 1) cap8)
                    have hme9 := hme8.set (i := 1) hM8 (Nat.le_refl _) (by decide) (.slice (some ⟨g8, 0, none⟩) (k + 1) cap8)
                    have hb9 := hb8.setCell (p := ⟨w.heap.size + 1 + 1, 1, none⟩) (by show w.heap.size ≤ w.heap.size + 1 + 1; omega) (.slice (some ⟨g8, 0, none⟩) (k + 1) cap8)
                    clear hM8 hR8 hD8 hb8 hme8 hgrow8 hown8 hM81 hM8f
                    go_roundg (gk - 1)
                    case measure => omega
                    case rel => exact ⟨k + 1, _, _, _, _, by omega, by go_num, Hgo.out, hM9, hR9, hD9, hme9, hb9⟩
                  · skip
                    have hw1 := Hw1.out rfl
                    go_quiet (fail)
                    go_upto_region 12 with fail
                    generalize hW : World.drewN w4 _ = W5
                    have hM5 : Box W5 (w.heap.size + 1 + 1) 87 #[.slice A1 k c1, .slice A2 k c2, .bool false, .slice none 0 0, .slice none 0 0] := by rw [← hW]; exact hMr
                    have hR5 : Box W5 (w.heap.size + 1) 87 #[.slice none 0 0, .slice none 0 0, .bool false, .slice none 0 0, .slice none 0 0] := by rw [← hW]; exact hRr
                    have hD5 : Box W5 w.heap.size 32 #[.slice (some ⟨b, off, none⟩) n cap] := by rw [← hW]; exact hDr
                    have hX5 : Box W5 X 93 #[.int .i64 v, .bool false, .string rx, .string ry] := by rw [← hW]; exact hX
                    have hY5 : Box W5 Y 85 #[.bool false, .slice A5 (ln WB (numOf rx)) c5, .slice A6 (ln WB (numOf ry)) c6] := by rw [← hW]; exact hY
                    have hdr : Below w4.heap.size w4 W5 := by rw [← hW]; exact below_drewN _ (Below.refl _ w4)
                    clear hW hMr hRr hDr hX hY hd0 hp0 x0 x1 x2 x3 y0 y1 y2
                    replace HM := Lib.hid (HM.out.below hdr (Nat.le_refl _))
                    replace Hn := Lib.hid (Hn.out.below hdr (Nat.le_refl _))
                    replace Hd := Lib.hid (Hd.out.below hdr (Nat.le_refl _))
                    replace hbel := hbel.trans (hdr.mono hbel.size)
                    clear hdr HA2
                    have hM0 := hM5.cell 0
                    have hMf := hM5.free 0
                    have hX0 := hX5.cell 0
                    go_upto_region 13 with (at_builtin; refine wpList_append_own _ rfl _ _ 39 rfl (w.heap.size + 1 + 1 + 1) 3 i0 (.int .i64 0) 1 8 Tryz.underlying39 ji jz0 jz1 jz2 rfl (by decide) _ k _ rfl (HM.out.1.alloc _) ⟨W5.heap.size, 0, none⟩ 1 1 [.int .i64 v] rfl rfl (cell_one_new _ _ _) (one_int _ _) (by unfold maxLen; omega) (by omega) (by have := hM5.lt; simp; omega) ?_; intro v6 w6 hown6 hgrow6 _; obtain ⟨g6, cap6, rfl⟩ := ownsRow_succ hown6; have hM6 := HM.out.box1 hgrow6 hM5 (by decide); have hM60 := hM6.cell 0; have hM6f := hM6.free 0)
                    have hR6 := HM.out.box1 hgrow6 hR5 (by decide)
                    have hD6 := HM.out.box1 hgrow6 hD5 (by decide)
                    have hY6 := HM.out.box1 hgrow6 hY5 (by decide)
                    have hn6' := HM.out.nums1 hgrow6 Hn.out
                    have hd6' := HM.out.nums1 hgrow6 Hd.out
                    have hb6 := (hbel.alloc hbel.size (.cells #[.int .i64 v] 3)).grown hgrow6 (by have := hbel.size; simp; omega) (fun j hj => by have := HM.out.row1 j hj; omega)
                    have hme6 := HM.out.more1 hgrow6 (by rw [HvF.out]; exact hown6)
                    have hYlt := HY.out
                    have hM7 : Box _ (w.heap.size + 1 + 1) 87 #[.slice (some ⟨g6, 0, none⟩) (k + 1) cap6, .slice A2 k c2, .bool false, .slice none 0 0, .slice none 0 0] := hM6.set 0 (.slice (some ⟨g6, 0, none⟩) (k + 1) cap6)
                    have hR7 := hR6.far (show w.heap.size + 1 + 1 ≠ w.heap.size + 1 by omega) 0 (.slice (some ⟨g6, 0, none⟩) (k + 1) cap6)
                    have hD7 := hD6.far (show w.heap.size + 1 + 1 ≠ w.heap.size by omega) 0 (.slice (some ⟨g6, 0, none⟩) (k + 1) cap6)
                    have hY7 := hY6.far (show w.heap.size + 1 + 1 ≠ Y by omega) 0 (.slice (some ⟨g6, 0, none⟩) (k + 1) cap6)
                    have hme7 := hme6.set (i := 0) hM6 (Nat.le_refl _) (by decide) (.slice (some ⟨g6, 0, none⟩) (k + 1) cap6)
                    have hn7 := hn6'.setCell (p := ⟨w.heap.size + 1 + 1, 0, none⟩) (hn6'.apart hM6 (by decide)) (.slice (some ⟨g6, 0, none⟩) (k + 1) cap6)
                    have hd7 := hd6'.setCell (p := ⟨w.heap.size + 1 + 1, 0, none⟩) (hd6'.apart hM6 (by decide)) (.slice (some ⟨g6, 0, none⟩) (k + 1) cap6)
                    have hb7 := hb6.setCell (p := ⟨w.heap.size + 1 + 1, 0, none⟩) (by show w.heap.size ≤ w.heap.size + 1 + 1; omega) (.slice (some ⟨g6, 0, none⟩) (k + 1) cap6)
                    generalize hW : World.setCell _ _ _ = W7 at hM7 hR7 hD7 hY7 hme7 hn7 hd7 hb7 ⊢
                    clear hW hM6 hR6 hD6 hY6 hn6' hd6' hb6 hme6 hM5 hR5 hD5 hX5 hY5 HM Hn Hd hbel hown6 hgrow6 hM0 hMf hX0 hM60 hM6f
                    obtain ⟨hrow1, xs, hrow2, hxs⟩ := hme7
                    have hme7 : MeasAt W7 (w.heap.size + 1 + 1) F (k + 1) k _ _ _ _ := ⟨hrow1, xs, hrow2, hxs⟩
                    have Hme := Lib.hid hme7
                    have Hxs := Lib.hid hxs
                    have Hn7 := Lib.hid hn7
                    have Hd7 := Lib.hid hd7
                    clear hme7 hxs hn7 hd7 hrow1
                    have hM1 := hM7.cell 1
                    obtain ⟨y0, y1, y2, _, _, _⟩ := hY7.three
                    go_wp2_with (at_builtin; refine wpList_append_own _ rfl _ _ 81 rfl (w.heap.size + 1 + 1 + 1) 85 i9 (.agg #[.bool false, .slice none 0 0, .slice none 0 0]) 3 56 Tryz.underlying81 ki kz0 kz1 kz2 rfl (by decide) _ k _ rfl (hrow2.alloc _) ⟨W7.heap.size, 0, none⟩ 1 1 [.bool false, .slice A5 (ln WB (numOf rx)) c5, .slice A6 (ln WB (numOf ry)) c6] rfl rfl (cells_frac_new _ _ _ _ _) (one_frac _ _ _ _ _ _ _) (by unfold maxLen; omega) (by omega) (by have := hM7.lt; simp; omega) ?_; intro v8 w8 hown8 hgrow8 _; obtain ⟨g8, cap8, rfl⟩ := ownsRow_succ hown8; have hM8 := Hme.out.box2 hgrow8 hM7 (by decide); have hM81 := hM8.cell 1; have hM8f := hM8.free 1)
                    have hR8 := Hme.out.box2 hgrow8 hR7 (by decide)
                    have hD8 := Hme.out.box2 hgrow8 hD7 (by decide)
                    have hb8 := (hb7.alloc hb7.size (.cells #[.bool false, .slice A5 (ln WB (numOf rx)) c5, .slice A6 (ln WB (numOf ry)) c6] 85)).grown hgrow8 (by have := hb7.size; simp; omega) (fun j hj => by have := Hme.out.row2 j hj; omega)
                    have hme8 := Hme.out.more2 Hxs.out hgrow8 hown8 (by rw [Hqk.out]) (by rw [Hqk.out]; exact Hn7.out) (by rw [Hqk.out]; exact Hd7.out)
                    have hM9 : Box _ (w.heap.size + 1 + 1) 87 #[.slice (some ⟨g6, 0, none⟩) (k + 1) cap6, .slice (some ⟨g8, 0, none⟩) (k + 1) cap8, .bool false, .slice none 0 0, .slice none 0 0] := hM8.set 1 (.slice (some ⟨g8, 0, none⟩) (k + 1) cap8)
                    have hR9 := hR8.far (show w.heap.size + 1 + 1 ≠ w.heap.size + 1 by omega) 1 (.slice (some ⟨g8, 0, none⟩) (k + 1) cap8)
                    have hD9 := hD8.far (show w.heap.size + 1 + 1 ≠ w.heap.size by omega) 1 (.slice (some ⟨g8, 0, none⟩) (k + 1) cap8)
                    have hme9 := hme8.set (i := 1) hM8 (Nat.le_refl _) (by decide) (.slice (some ⟨g8, 0, none⟩) (k + 1) cap8)
                    have hb9 := hb8.setCell (p := ⟨w.heap.size + 1 + 1, 1, none⟩) (by show w.heap.size ≤ w.heap.size + 1 + 1; omega) (.slice (some ⟨g8, 0, none⟩) (k + 1) cap8)
                    clear hM8 hR8 hD8 hb8 hme8 hgrow8 hown8 hM81 hM8f
                    go_roundg (gk - 1)
                    case measure => omega
                    case rel => exact ⟨k + 1, _, _, _, _, by omega, by go_num, Hgo.out, hM9, hR9, hD9, hme9, hb9⟩
      · obtain rfl : k = n := by omega
        have hok := HOK.out
        have hfit : FitF (massQ F) 0 k := qOf_fit (ptsOk_rats hok)
        have hpos := total_pos hok
        obtain ⟨hf1, hf2, hf3⟩ := HM.out.fracs
        have hdist : distOk F k = decide ((total F k).2.1 ≤ (total F k).2.2) := by unfold distOk; rw [decide_eq_true hn6, hok]; rfl
        have CS : Hid (∀ W, FracAt W A2 k (fun j => massQ F (0 + j)) → Below w.heap.size w W → _) := Lib.hid fun W g hW => sumF_any (massQ F) k (by omega) 0 c2 A2 W hf2 hf3 g hfit (HT.out.below hW)
        rw [show sumR (massQ F) 0 k = total F k from rfl] at CS
        have hFr' : FracAt wr A2 k (fun j => massQ F (0 + j)) := by
          have e : (fun j => massQ F (0 + j)) = massQ F := funext fun j => by rw [Nat.zero_add]
          rw [e]; exact hf1
        have HTo := Lib.hid (rfl : total F k = total F k)
        obtain ⟨⟨sg, N, D⟩, ho⟩ : ∃ o, o = total F k := ⟨_, rfl⟩
        rw [← ho] at CS hpos hdist
        simp only at CS hpos hdist
        subst hpos
        obtain ⟨dv, hdv⟩ : ∃ d, d = decide (N ≤ D) := ⟨_, rfl⟩
        rw [← hdv] at hdist
        have CP : Hid (∀ (u1 u2 : Value) W, Nums 143 .u64 WB W u1 N → Nums 143 .u64 WB W u2 D → _) := Lib.hid fun u1 u2 W g1 g2 => isProb_any false u1 u2 N D W g1 g2
        rw [← hdv] at CP
        have Hdist := Lib.hid hdist
        have Ho := Lib.hid ho
        clear hok hfit hf1 hf2 hf3 hdist ho hdv HTo hd
        obtain ⟨⟨y0, y1, y2, y3, y4⟩, _⟩ := hMr.five
        go_upto_region 16 with (go_at_call 121; refine (CS.out _ hFr' hbel).mono ?_; rintro e w2 ⟨⟨v, rfl, vn, vd, rfl, hvn, hvd⟩, hb2⟩; obtain ⟨A3, c3, rfl, _, _, _⟩ := RowF.open hvn; obtain ⟨A4, c4, rfl, _, _, _⟩ := RowF.open hvd; have hM2 := hMr.below hb2 hMr.lt; obtain ⟨⟨y0, y1, y2, y3, y4⟩, f0, f1, f2, f3, f4⟩ := hM2.five)
        have hM3 : Box _ (w.heap.size + 1 + 1) 87 #[.slice A1 k c1, .slice A2 k c2, .bool false, .slice A3 (ln WB N) c3, .slice A4 (ln WB D) c4] := ((hM2.set 2 (.bool false)).set 3 (.slice A3 (ln WB N) c3)).set 4 (.slice A4 (ln WB D) c4)
        have hR2 := hRr.below hb2 hRr.lt
        have hR3 := ((hR2.far (show w.heap.size + 1 + 1 ≠ w.heap.size + 1 by omega) 2 (.bool false)).far (show w.heap.size + 1 + 1 ≠ w.heap.size + 1 by omega) 3 (.slice A3 (ln WB N) c3)).far (show w.heap.size + 1 + 1 ≠ w.heap.size + 1 by omega) 4 (.slice A4 (ln WB D) c4)
        have hme3 := (((HM.out.below hb2 (Nat.le_refl _)).set (i := 2) hM2 (Nat.le_refl _) (by decide) (.bool false)).set (i := 3) (hM2.set 2 (.bool false)) (Nat.le_refl _) (by decide) (.slice A3 (ln WB N) c3)).set (i := 4) ((hM2.set 2 (.bool false)).set 3 (.slice A3 (ln WB N) c3)) (Nat.le_refl _) (by decide) (.slice A4 (ln WB D) c4)
        have hn3 := ((hvn.setCell (p := ⟨w.heap.size + 1 + 1, 2, none⟩) (hvn.apart hM2 (by decide)) (.bool false)).setCell (p := ⟨w.heap.size + 1 + 1, 3, none⟩) (hvn.apart hM2 (by decide)) (.slice A3 (ln WB N) c3)).setCell (p := ⟨w.heap.size + 1 + 1, 4, none⟩) (hvn.apart hM2 (by decide)) (.slice A4 (ln WB D) c4)
        have hd3 := ((hvd.setCell (p := ⟨w.heap.size + 1 + 1, 2, none⟩) (hvd.apart hM2 (by decide)) (.bool false)).setCell (p := ⟨w.heap.size + 1 + 1, 3, none⟩) (hvd.apart hM2 (by decide)) (.slice A3 (ln WB N) c3)).setCell (p := ⟨w.heap.size + 1 + 1, 4, none⟩) (hvd.apart hM2 (by decide)) (.slice A4 (ln WB D) c4)
        have hB2 := hbel.trans (hb2.mono hbel.size)
        have hB3 := ((hB2.setCell (p := ⟨w.heap.size + 1 + 1, 2, none⟩) (by show w.heap.size ≤ w.heap.size + 1 + 1; omega) (.bool false)).setCell (p := ⟨w.heap.size + 1 + 1, 3, none⟩) (by show w.heap.size ≤ w.heap.size + 1 + 1; omega) (.slice A3 (ln WB N) c3)).setCell (p := ⟨w.heap.size + 1 + 1, 4, none⟩) (by show w.heap.size ≤ w.heap.size + 1 + 1; omega) (.slice A4 (ln WB D) c4)
        generalize hW : World.setCell _ _ _ = W3 at hM3 hR3 hme3 hn3 hd3 hB3 ⊢
        clear hW hM2 hR2 hB2 hb2 hvn hvd hMr hRr HM hbel hFr' CS y0 y1 y2 y3 y4 f0 f1 f2 f3 f4
        obtain ⟨⟨y0, y1, y2, y3, y4⟩, _⟩ := hM3.five
        cases dv with
        | false =>
          go_wp2_with (go_at_call 89; refine (CP.out _ _ _ hn3 hd3).mono ?_; rintro e w4 ⟨rfl, hb4⟩; have hR4 := hR3.below hb4 hR3.lt; have hB4 := hB3.trans (hb4.mono hB3.size); obtain ⟨⟨z0, z1, z2, z3, z4⟩, f0, f1, f2, f3, f4⟩ := hR4.five)
          have hq5 := hR4.put5 (.slice none 0 0) (.slice none 0 0) (.bool false) (.slice none 0 0) (.slice none 0 0)
          obtain ⟨⟨m0, m1, m2, m3, m4⟩, _⟩ := Box.five hq5
          refine bodyPost_ret (v := noMeas) (by simp [results, Tryz.results65, go_sem, noMeas, m0, m1, m2, m3, m4]; done) rfl (meas_bad Hdist.out rfl ?_)
          exact below_put5 hB4 (by omega) _ _ _ _ _
        | true =>
          go_wp2_with (go_at_call 89; refine (CP.out _ _ _ hn3 hd3).mono ?_; rintro e w4 ⟨rfl, hb4⟩; have hR4 := hR3.below hb4 hR3.lt; have hM4 := hM3.below hb4 hM3.lt; have hB4 := hB3.trans (hb4.mono hB3.size); have hme4 := hme3.below hb4 (Nat.le_refl _); have hn4 := hn3.below hb4 (Nat.le_refl _); have hd4 := hd3.below hb4 (Nat.le_refl _); obtain ⟨⟨z0, z1, z2, z3, z4⟩, f0, f1, f2, f3, f4⟩ := hR4.five; obtain ⟨⟨u0, u1, u2, u3, u4⟩, _⟩ := hM4.five)
          have hq5 := hR4.put5 (.slice A1 k c1) (.slice A2 k c2) (.bool false) (.slice A3 (ln WB N) c3) (.slice A4 (ln WB D) c4)
          obtain ⟨⟨m0, m1, m2, m3, m4⟩, _⟩ := Box.five hq5
          have hlt : w.heap.size + 1 ≤ w.heap.size + 1 + 1 := Nat.le_succ _
          have hme5 := ((((hme4.set (i := 0) hR4 hlt (by decide) (.slice A1 k c1)).set (i := 1) (hR4.set 0 _) hlt (by decide) (.slice A2 k c2)).set (i := 2) ((hR4.set 0 _).set 1 _) hlt (by decide) (.bool false)).set (i := 3) (((hR4.set 0 _).set 1 _).set 2 _) hlt (by decide) (.slice A3 (ln WB N) c3)).set (i := 4) ((((hR4.set 0 _).set 1 _).set 2 _).set 3 _) hlt (by decide) (.slice A4 (ln WB D) c4)
          refine bodyPost_ret (v := .tuple #[.agg #[.slice A1 k c1, .slice A2 k c2, .bool false, .slice A3 (ln WB N) c3, .slice A4 (ln WB D) c4], .bool true]) (by simp [results, Tryz.results65, go_sem, m0, m1, m2, m3, m4]; done) rfl ⟨?_, below_put5 hB4 (by omega) _ _ _ _ _⟩
          rw [if_pos Hdist.out, ← Ho.out]
          exact ⟨A1, c1, A2, c2, A3, _, c3, A4, _, c4, rfl, hme5.ints, hme5.fracs.1, hme5.fracs.2.1, hme5.fracs.2.2, Nums.put5 hn4 hR4 (by decide) _ _ _ _ _, Nums.put5 hd4 hR4 (by decide) _ _ _ _ _⟩
  · have hd : decide ((60 : Int) < (n : Int)) = true := decide_eq_true (by omega)
    have hdist : distOk F n = false := by unfold distOk; rw [decide_eq_false hn6]; rfl
    clear e0
    obtain ⟨⟨z0, z1, z2, z3, z4⟩, f0, f1, f2, f3, f4⟩ := hR.five
    go_enter Tryz.func65, Tryz.ntmps65
    go_wp2_with fail
    refine bodyPost_ret (v := noMeas) (by simp [results, Tryz.results65, go_sem, noMeas, z0, z1, z2, z3, z4]; done) rfl (meas_bad hdist rfl ?_)
    exact hB

end Go.Proofs.YtlfghhmphgidjaaGreatDoor
