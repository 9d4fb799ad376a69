/-
  Several texts in one: RatS, Draw, DrawA, DrawB, DrawD.
-/
import Derived.Test.YtlfghhmphgidjaaDoorFracLaw
import Derived.Test.YtlfghhmphgidjaaDoorEqRat
import Derived.Laws.MakeOwn
import Derived.Deep.LoopGhost
import Derived.Deep.DeepCutAuto
import Derived.Deep.RegionHeld3
import Derived.Test.YtlfghhmphgidjaaDoorCur
import Derived.Test.YtlfghhmphgidjaaDoorM2
/-
  Lists of Rats: the law's copies, comparisons and sizes of them.
-/
namespace Go.Proofs.YtlfghhmphgidjaaDoor
open Go.RowKit Num

/-- The three cells of a Rat. -/
def ratC (r : Bool × ByteArray × ByteArray) : Nat → Value
  | 0 => .bool r.1
  | 1 => .string r.2.1
  | _ => .string r.2.2

/-- n Rats stand in a row from the address on. -/
def RatAt (w : World) (A : Option Addr) (n : Nat) (F : Nat → Bool × ByteArray × ByteArray) : Prop :=
  0 < n → ∃ b off, A = some ⟨b, off, none⟩ ∧ b < w.heap.size ∧ ∀ j, j < n → ∀ c, c < 3 → w.cell? ⟨b, off + (j * 3 + c), none⟩ = some (ratC (F j) c)

theorem RatAt.below {B : Nat} {w w' : World} {A : Option Addr} {n : Nat} {F : Nat → Bool × ByteArray × ByteArray} (h : RatAt w A n F) (hb : Below B w w') (hB : w.heap.size ≤ B) : RatAt w' A n F := fun h0 => by
  obtain ⟨b, off, rfl, h1, h2⟩ := h h0
  exact ⟨b, off, rfl, Nat.lt_of_lt_of_le h1 hb.size, fun j hj c hc => (hb.cell (p := ⟨b, off + (j * 3 + c), none⟩) (Nat.lt_of_lt_of_le h1 hB)).trans (h2 j hj c hc)⟩

theorem RatAt.at_ {w : World} {A : Option Addr} {n : Nat} {F : Nat → Bool × ByteArray × ByteArray} (h : RatAt w A n F) {j : Nat} (hj : j < n) :
    ∃ b off, A = some ⟨b, off, none⟩ ∧ b < w.heap.size ∧ w.cell? ⟨b, off + j * 3, none⟩ = some (.bool (F j).1) ∧ w.cell? ⟨b, off + j * 3 + 1, none⟩ = some (.string (F j).2.1) ∧ w.cell? ⟨b, off + j * 3 + 2, none⟩ = some (.string (F j).2.2) := by
  obtain ⟨b, off, rfl, h1, h2⟩ := h (by omega)
  exact ⟨b, off, rfl, h1, h2 j hj 0 (by omega), h2 j hj 1 (by omega), h2 j hj 2 (by omega)⟩

theorem RatAt.cells {w : World} {b off n : Nat} {F : Nat → Bool × ByteArray × ByteArray} (h : RatAt w (some ⟨b, off, none⟩) n F) {j : Nat} (hj : j < n) :
    w.cell? ⟨b, off + j * 3, none⟩ = some (.bool (F j).1) ∧ w.cell? ⟨b, off + j * 3 + 1, none⟩ = some (.string (F j).2.1) ∧ w.cell? ⟨b, off + j * 3 + 2, none⟩ = some (.string (F j).2.2) := by
  obtain ⟨b', off', he, _, h0, h1, h2⟩ := h.at_ hj
  injection he with he
  injection he with e1 e2 _
  subst e1 e2
  exact ⟨h0, h1, h2⟩

theorem Tryd.infoRat : (Tryd.prog.info? 57).map (fun i => (i.zero, i.size, i.bytes)) = some (some (.agg #[.bool false, .string ⟨#[]⟩, .string ⟨#[]⟩]), 3, 40) := by kernel_rfl

theorem three_at {w : World} {g : Nat} {t : TypeId} {cs : Array Value} (h : Box w g t cs) (i : Nat) (hi : i + 3 ≤ cs.size) :
    w.cell? ⟨g, i, none⟩ = some (cs.getD i undef) ∧ w.cell? ⟨g, i + 1, none⟩ = some (cs.getD (i + 1) undef) ∧ w.cell? ⟨g, i + 2, none⟩ = some (cs.getD (i + 2) undef) ∧
    w.frozen? ⟨g, i, none⟩ = false ∧ w.frozen? ⟨g, i + 1, none⟩ = false ∧ w.frozen? ⟨g, i + 2, none⟩ = false := by
  refine ⟨?_, ?_, ?_, h.free _, h.free _, h.free _⟩
  all_goals rw [h.cell, Array.getD, dif_pos (by omega), Array.getElem?_eq_getElem (by omega)]; rfl

theorem fill3 (k n : Nat) (cs : Array Value) (F : Nat → Nat → Value) (hcs : cs.size = n * 3) (hk : k < n) (h : ∀ j, j < k → ∀ c, c < 3 → cs[j * 3 + c]? = some (F j c)) :
    ∀ j, j < k + 1 → ∀ c, c < 3 → (((cs.setIfInBounds (k * 3) (F k 0)).setIfInBounds (k * 3 + 1) (F k 1)).setIfInBounds (k * 3 + 2) (F k 2))[j * 3 + c]? = some (F j c) := by
  intro j hj c hc
  simp only [Array.getElem?_setIfInBounds, Array.size_setIfInBounds]
  by_cases hjk : j < k
  · rw [if_neg (by omega), if_neg (by omega), if_neg (by omega)]
    exact h j hjk c hc
  · obtain rfl : j = k := by omega
    match c, hc with
    | 0, _ => rw [if_neg (by omega), if_neg (by omega), if_pos (by omega), if_pos (by omega)]
    | 1, _ => rw [if_neg (by omega), if_pos (by omega), if_pos (by omega)]
    | 2, _ => rw [if_pos (by omega), if_pos (by omega)]

theorem hold6R {W w' : World} {b off b' off' n j : Nat} {F : Nat → Bool × ByteArray × ByteArray} (h : RatAt W (some ⟨b, off, none⟩) n F) (k : RatAt W (some ⟨b', off', none⟩) n F) (hj : j < n) (hb : Below W.heap.size W w') :
    w'.cell? ⟨b, off + j * 3, none⟩ = some (.bool (F j).1) ∧ w'.cell? ⟨b, off + j * 3 + 1, none⟩ = some (.string (F j).2.1) ∧ w'.cell? ⟨b, off + j * 3 + 2, none⟩ = some (.string (F j).2.2) ∧
    w'.cell? ⟨b', off' + j * 3, none⟩ = some (.bool (F j).1) ∧ w'.cell? ⟨b', off' + j * 3 + 1, none⟩ = some (.string (F j).2.1) ∧ w'.cell? ⟨b', off' + j * 3 + 2, none⟩ = some (.string (F j).2.2) ∧ Below W.heap.size W w' := by
  obtain ⟨h0, h1, h2⟩ := (h.below hb (Nat.le_refl _)).cells hj
  obtain ⟨k0, k1, k2⟩ := (k.below hb (Nat.le_refl _)).cells hj
  exact ⟨h0, h1, h2, k0, k1, k2, hb⟩
theorem hold6R_below {W w' : World} {p1 p2 p3 p4 p5 p6 : Prop} (h : p1 ∧ p2 ∧ p3 ∧ p4 ∧ p5 ∧ p6 ∧ Below W.heap.size W w') : Below W.heap.size W w' := h.2.2.2.2.2.2
theorem step6R {W w1 w2 : World} (h : Below W.heap.size W w1) (k : Below w1.heap.size w1 w2) : Below W.heap.size W w2 := h.trans (k.mono h.size)

end Go.Proofs.YtlfghhmphgidjaaDoor
/-
  The model's drawing functions of Rats: that they answer some Rat, whatever the code.
-/
namespace Go.Proofs.YtlfghhmphgidjaaDoor
open Go.RowKit Num

theorem ratRes_small (sg : Bool) (N D : Nat) : ∃ b x y c, ratRes sg N D = .tuple #[.agg #[.bool b, .string x, .string y], .bool c] ∧ x.size ≤ 120 ∧ y.size ≤ 120 := by
  unfold ratRes
  split
  · rename_i h
    simp only [fits, Bool.and_eq_true, decide_eq_true_eq] at h
    exact ⟨_, _, _, _, rfl, h.1, h.2⟩
  · exact ⟨_, _, _, _, rfl, Nat.zero_le _, Nat.zero_le _⟩

theorem decL_two (N : Nat) (h : N ≤ 99) : (decL N).length ≤ 2 := by
  by_cases h1 : N < 10
  · rw [decL_small N h1]; simp
  · rw [decL_step N (by omega), decL_small (N / 10) (by omega)]; simp

theorem ratRes_tiny (sg : Bool) (N D : Nat) (hN : N ≤ 99) (hD : D ≤ 99) : ∃ b x y c, ratRes sg N D = .tuple #[.agg #[.bool b, .string x, .string y], .bool c] ∧ x.size ≤ 2 ∧ y.size ≤ 2 := by
  unfold ratRes
  split
  · exact ⟨_, _, _, _, rfl, by rw [dec_size]; exact decL_two N hN, by rw [dec_size]; exact decL_two D hD⟩
  · exact ⟨_, _, _, _, rfl, Nat.zero_le _, Nat.zero_le _⟩

theorem ratOf_tiny (num den : Int) (h1 : num.natAbs ≤ 99) (h2 : den.natAbs ≤ 99) : ∃ b x y c, ratOf num den = .tuple #[.agg #[.bool b, .string x, .string y], .bool c] ∧ x.size ≤ 2 ∧ y.size ≤ 2 :=
  ratRes_tiny _ _ _ (Nat.le_trans (Nat.div_le_self _ _) h1) (Nat.le_trans (Nat.div_le_self _ _) h2)

/-- The six odd Rats. -/
def oddC : Array Value := #[.bool false, .string ⟨#[]⟩, .string ⟨#[]⟩, .bool false, .string ⟨#[50]⟩, .string ⟨#[52]⟩, .bool true, .string ⟨#[48]⟩, .string ⟨#[49]⟩, .bool false, .string ⟨#[49]⟩, .string ⟨#[48]⟩, .bool false, .string ⟨#[48]⟩, .string ⟨#[50]⟩, .bool false, .string ⟨#[48, 49]⟩, .string ⟨#[49]⟩]

theorem oddC_at (z : Nat) (hz : z < 6) : ∃ b x y, oddC.getD (z * 3) undef = .bool b ∧ oddC.getD (z * 3 + 1) undef = .string x ∧ oddC.getD (z * 3 + 2) undef = .string y ∧ x.size ≤ 2 ∧ y.size ≤ 2 := by
  match z, hz with
  | 0, _ => exact ⟨_, _, _, rfl, rfl, rfl, by decide, by decide⟩
  | 1, _ => exact ⟨_, _, _, rfl, rfl, rfl, by decide, by decide⟩
  | 2, _ => exact ⟨_, _, _, rfl, rfl, rfl, by decide, by decide⟩
  | 3, _ => exact ⟨_, _, _, rfl, rfl, rfl, by decide, by decide⟩
  | 4, _ => exact ⟨_, _, _, rfl, rfl, rfl, by decide, by decide⟩
  | 5, _ => exact ⟨_, _, _, rfl, rfl, rfl, by decide, by decide⟩

end Go.Proofs.YtlfghhmphgidjaaDoor
/-
  The model's drawing of any Rat, and of two.
-/
namespace Go.Proofs.YtlfghhmphgidjaaDoor
open Go.RowKit Num

theorem row_new {w : World} {g k : Nat} {t : TypeId} {cs : Array Value} {V : Nat → Value} (hg : g < w.heap.size) (hV : ∀ j, j < k → cs[j]? = some (V j)) : RowAt (w.alloc (.cells cs t)) w.heap.size 0 k g V :=
  ⟨by omega, by simp, fun j hj => by rw [(Box.new w t cs).cell, Nat.zero_add]; exact hV j hj⟩

abbrev intsA : Array Value := #[.int .i64 59, .int .i64 60, .int .i64 119, .int .i64 120]
abbrev intsB : Array Value := #[.int .i64 59, .int .i64 60, .int .i64 118, .int .i64 119]
def natA : Nat → Int | 0 => 59 | 1 => 60 | 2 => 119 | _ => 120
def natB : Nat → Int | 0 => 59 | 1 => 60 | 2 => 118 | _ => 119
theorem intsA_at (j : Nat) (hj : j < 4) : intsA[j]? = some (.int .i64 (natA j)) := by
  match j, hj with | 0, _ => rfl | 1, _ => rfl | 2, _ => rfl | 3, _ => rfl
theorem intsB_at (j : Nat) (hj : j < 4) : intsB[j]? = some (.int .i64 (natB j)) := by
  match j, hj with | 0, _ => rfl | 1, _ => rfl | 2, _ => rfl | 3, _ => rfl
theorem natA_at (j : Nat) : ∃ N : Nat, N ≤ 120 ∧ natA j = (N : Int) := by
  match j with | 0 => exact ⟨59, by omega, rfl⟩ | 1 => exact ⟨60, by omega, rfl⟩ | 2 => exact ⟨119, by omega, rfl⟩ | _ + 3 => exact ⟨120, by omega, rfl⟩
theorem natB_at (j : Nat) : ∃ N : Nat, N ≤ 120 ∧ natB j = (N : Int) := by
  match j with | 0 => exact ⟨59, by omega, rfl⟩ | 1 => exact ⟨60, by omega, rfl⟩ | 2 => exact ⟨118, by omega, rfl⟩ | _ + 3 => exact ⟨119, by omega, rfl⟩
abbrev strsA : Array Value := #[.string ⟨#[49]⟩, .string ⟨#[51]⟩, .string ⟨#[55]⟩, .string ⟨#[50, 49]⟩]
abbrev strsB : Array Value := #[.string ⟨#[49]⟩, .string ⟨#[50]⟩, .string ⟨#[53]⟩]
def strA : Nat → ByteArray | 0 => ⟨#[49]⟩ | 1 => ⟨#[51]⟩ | 2 => ⟨#[55]⟩ | _ => ⟨#[50, 49]⟩
def strB : Nat → ByteArray | 0 => ⟨#[49]⟩ | 1 => ⟨#[50]⟩ | _ => ⟨#[53]⟩
theorem strsA_at (j : Nat) (hj : j < 4) : strsA[j]? = some (.string (strA j)) := by
  match j, hj with | 0, _ => rfl | 1, _ => rfl | 2, _ => rfl | 3, _ => rfl
theorem strsB_at (j : Nat) (hj : j < 3) : strsB[j]? = some (.string (strB j)) := by
  match j, hj with | 0, _ => rfl | 1, _ => rfl | 2, _ => rfl
theorem strA_size (j : Nat) : (strA j).size ≤ 2 := by
  match j with | 0 => exact (by decide : (1 : Nat) ≤ 2) | 1 => exact (by decide : (1 : Nat) ≤ 2) | 2 => exact (by decide : (1 : Nat) ≤ 2) | _ + 3 => exact Nat.le_refl 2
theorem strB_size (j : Nat) : (strB j).size ≤ 2 := by
  match j with | 0 => exact (by decide : (1 : Nat) ≤ 2) | 1 => exact (by decide : (1 : Nat) ≤ 2) | _ + 2 => exact (by decide : (1 : Nat) ≤ 2)

end Go.Proofs.YtlfghhmphgidjaaDoor
/-
  The model's drawing of two Rats.
-/
namespace Go.Proofs.YtlfghhmphgidjaaDoor
open Go.RowKit Num

theorem Box.far3 {w : World} {b H : Nat} {t : TypeId} {cs : Array Value} (h : Box w b t cs) (hne : b ≠ H) (x y z : Value) : Box (((w.setCell ⟨H, 0, none⟩ x).setCell ⟨H, 1, none⟩ y).setCell ⟨H, 2, none⟩ z) b t cs :=
  (Below.heap_setCell _ _ _ _ hne).trans ((Below.heap_setCell _ _ _ _ hne).trans ((Below.heap_setCell _ _ _ _ hne).trans h))

theorem Box.into3 {w : World} {g : Nat} {t : TypeId} {a b c : Value} (h : Box w g t #[a, b, c]) (x y z : Value) : Box (((w.setCell ⟨g, 0, none⟩ x).setCell ⟨g, 1, none⟩ y).setCell ⟨g, 2, none⟩ z) g t #[x, y, z] := ((h.set 0 x).set 1 y).set 2 z

abbrev noR : Array Value := #[.bool false, .string ⟨#[]⟩, .string ⟨#[]⟩]

end Go.Proofs.YtlfghhmphgidjaaDoor
/-
  The model's drawing of a list of Rats.
-/
namespace Go.Proofs.YtlfghhmphgidjaaDoor
open Go.RowKit Num

/-- Rats as cells. -/
def ratL : List (Bool × ByteArray × ByteArray) → List Value
  | [] => []
  | r :: rs => .bool r.1 :: .string r.2.1 :: .string r.2.2 :: ratL rs
theorem ratL_snoc (rs : List (Bool × ByteArray × ByteArray)) (r : Bool × ByteArray × ByteArray) : ratL (rs ++ [r]) = ratL rs ++ [.bool r.1, .string r.2.1, .string r.2.2] := by
  induction rs with
  | nil => rfl
  | cons a t ih => simp [ratL, ih]
theorem ratL_at (rs : List (Bool × ByteArray × ByteArray)) (j : Nat) (hj : j < rs.length) (c : Nat) (hc : c < 3) : (ratL rs)[j * 3 + c]? = some (ratC (rs.getD j (false, ⟨#[]⟩, ⟨#[]⟩)) c) := by
  induction rs generalizing j with
  | nil => simp at hj
  | cons a t ih =>
    cases j with
    | zero =>
      match c, hc with
      | 0, _ => rfl
      | 1, _ => rfl
      | 2, _ => rfl
    | succ j =>
      have h := ih j (by simpa using hj)
      have e : (j + 1) * 3 + c = j * 3 + c + 1 + 1 + 1 := by omega
      rw [e]
      simpa [ratL] using h

/-- A list of Rats of one's own, behind block g. -/
def Listed (w : World) (g : Nat) (v : Value) (rs : List (Bool × ByteArray × ByteArray)) : Prop := w.ownsRow (g + 1) 57 3 v rs.length (ratL rs) ∧ ∀ r ∈ rs, r.2.1.size ≤ 130 ∧ r.2.2.size ≤ 130

theorem owns_but {g base n size : Nat} {w w' : World} {e : TypeId} {v : Value} {xs : List Value} (h : w.ownsRow base e size v n xs) (k : But g w w') (hg : g < base) : w'.ownsRow base e size v n xs := by
  refine ⟨h.1, ?_⟩
  rcases h.2 with h2 | ⟨b, cap, cur, rfl, h3, h4, h5⟩
  · exact .inl h2
  · have hb : b < w.heap.size := by
      rcases Nat.lt_or_ge b w.heap.size with h' | h'
      · exact h'
      · rw [Array.getElem?_eq_none h'] at h4; cases h4
    exact .inr ⟨b, cap, cur, rfl, h3, (k.block b hb (by omega)).trans h4, h5⟩
theorem Listed.but {g : Nat} {w w' : World} {v : Value} {rs : List (Bool × ByteArray × ByteArray)} (h : Listed w g v rs) (k : But g w w') : Listed w' g v rs := ⟨owns_but h.1 k (by omega), h.2⟩

theorem Listed.more {g : Nat} {w : World} {v : Value} {rs : List (Bool × ByteArray × ByteArray)} {b : Bool} {x y : ByteArray} (h : w.ownsRow (g + 1) 57 3 v (rs.length + 1) (ratL rs ++ [.bool b, .string x, .string y])) (hs : ∀ r ∈ rs, r.2.1.size ≤ 130 ∧ r.2.2.size ≤ 130) (hx : x.size ≤ 130) (hy : y.size ≤ 130) :
    Listed w g v (rs ++ [(b, x, y)]) := by
  refine ⟨by rw [ratL_snoc, List.length_append]; exact h, fun r hr => ?_⟩
  rcases List.mem_append.1 hr with hr | hr
  · exact hs r hr
  · obtain rfl := List.mem_singleton.1 hr
    exact ⟨hx, hy⟩

theorem Listed.row {g : Nat} {w : World} {v : Value} {rs : List (Bool × ByteArray × ByteArray)} (h : Listed w g v rs) (k : Nat) (hk : v.ownBlock = some k) : g < k := by
  have := (h.1.lt k hk).1
  omega

theorem one_rat (b : Bool) (x y : ByteArray) : ∀ u ∈ [Value.bool b, .string x, .string y], u.oneCell' = true := by
  intro u hu
  simp at hu
  rcases hu with rfl | rfl | rfl <;> rfl
theorem cells_rat_new (w : World) (t : TypeId) (b : Bool) (x y : ByteArray) : ∀ j u, [Value.bool b, .string x, .string y][j]? = some u → (w.alloc (.cells #[.bool b, .string x, .string y] t)).cell? ((⟨w.heap.size, 0, none⟩ : Addr).add j) = some u := by
  intro j u hu
  obtain ⟨h0, h1, h2, _⟩ := (Box.new w t #[.bool b, .string x, .string y]).three
  have hz : ∀ j, (⟨w.heap.size, 0, none⟩ : Addr).add j = ⟨w.heap.size, j, none⟩ := fun j => by unfold Addr.add; split <;> simp_all
  rw [hz]
  match j, hu with
  | 0, hu => cases hu; exact h0
  | 1, hu => cases hu; exact h1
  | 2, hu => cases hu; exact h2

/-- What the list says in the end. -/
theorem Listed.says {g : Nat} {w : World} {v : Value} {rs : List (Bool × ByteArray × ByteArray)} (h : Listed w g v rs) : ∃ A0 cap, v = .slice A0 rs.length cap ∧ RatAt w A0 rs.length fun j => rs.getD j (false, ⟨#[]⟩, ⟨#[]⟩) := by
  rcases h.1.2 with ⟨rfl, h0⟩ | ⟨b, cap, cur, rfl, h3, h4, h5, h6, h7, h8⟩
  · exact ⟨none, 0, by rw [h0], fun hp => by omega⟩
  · refine ⟨_, cap, rfl, fun _ => ⟨b, 0, rfl, ?_, fun j hj c hc => ?_⟩⟩
    · rcases Nat.lt_or_ge b w.heap.size with h' | h'
      · exact h'
      · rw [Array.getElem?_eq_none h'] at h4; cases h4
    · have hz := h.1.cells (g := b) rfl (j * 3 + c) _ (ratL_at rs j hj c hc)
      have e : (⟨b, 0, none⟩ : Addr).add (j * 3 + c) = ⟨b, 0 + (j * 3 + c), none⟩ := by unfold Addr.add; split <;> simp_all
      rw [e] at hz
      exact hz

end Go.Proofs.YtlfghhmphgidjaaDoor
