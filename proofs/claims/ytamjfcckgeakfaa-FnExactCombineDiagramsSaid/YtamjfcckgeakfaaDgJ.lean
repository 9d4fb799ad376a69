/-
  Decision diagrams, the model: two tables joined bit by bit.
-/
import Derived.Test.YtamjfcckgeakfaaDgQ
namespace Go.Proofs.Ytamjfcckgeakfaa
open Go.RowKit Num

/-- The operation of a number: 1 and, 2 or, 3 exclusive or. -/
def opB (op : Int) (a b : Bool) : Bool := if op = 2 then a || b else if op = 3 then a != b else a && b

/-- A bit as a byte. -/
def bitC (b : Bool) : Int := if b then 49 else 48
theorem bitC_eq (b : Bool) : (bitC b == 49) = b := by cases b <;> rfl

set_option maxRecDepth 100000 in
set_option maxHeartbeats 3200000 in
theorem specOp_any (op : Int) (a b : Bool) (w : World) :
    Calls Try.prog 78 #[.int .i64 op, .int .u8 (bitC a), .int .u8 (bitC b)] w fun e w' => e = .returned (.int .u8 (bitC (opB op a b))) ∧ w' = w := by
  by_cases h2 : op = 2
  · subst h2
    cases a <;> cases b
    all_goals
      go_enter Try.func78, Try.ntmps78
      go_wp2_with fail
      go_ret
      exact ⟨rfl, rfl⟩
  · by_cases h3 : op = 3
    · subst h3
      cases a <;> cases b
      all_goals
        go_enter Try.func78, Try.ntmps78
        go_wp2_with fail
        go_ret
        exact ⟨rfl, rfl⟩
    · have d2 : (op == 2) = false := beq_eq_false_iff_ne.2 h2
      have d3 : (op == 3) = false := beq_eq_false_iff_ne.2 h3
      have HO : Hid (opB op a b = (a && b)) := Lib.hid (by unfold opB; rw [if_neg h2, if_neg h3])
      rw [HO.out]
      clear h2 h3 HO
      cases a <;> cases b
      all_goals
        go_enter Try.func78, Try.ntmps78
        go_wp2_with fail
        go_ret
        exact ⟨rfl, rfl⟩

theorem tbS_size (T : Nat → Bool) (n : Nat) : (tbS T n).size = n := by show (tbB T n).toArray.size = n; rw [List.size_toArray, tbB_len]
theorem tbS_at (T : Nat → Bool) (n : Nat) : ∀ k (h : k < (tbS T n).size), (((tbS T n)[k]'h).toNat : Int) = bitC (T k) := fun k h => by
  have h1 := byte_at h
  rw [show (tbS T n).data.toList = tbB T n by simp [tbS]] at h1
  have h2 : (tbB T n)[k]? = some (if T k then 49 else 48) := by
    rw [tbS_size] at h
    simp only [tbB, List.getElem?_map, List.getElem?_range h, Option.map_some]
  rw [h2] at h1
  injection h1 with h1
  rw [← h1]
  unfold bitC
  split <;> rfl

/-- The value in a cell. -/
def cellW (W : World) (p : Addr) : Value := (W.cell? p).getD undef

/-- A table under way in a block of its own. -/
structure TabU (T : Nat → Bool) (M G k : Nat) (w W : World) : Prop where
  tab : ∃ cs : Array Value, Box W G 5 cs ∧ cs.size = M ∧ ∀ j, j < k → cs[j]? = some (.int .u8 (bitC (T j)))
  bel : Below w.heap.size w W

section
variable {T : Nat → Bool} {M G k : Nat} {w W W' : World}
theorem TabU.by (hb : Below W.heap.size W W') (h : TabU T M G k w W) : TabU T M G k w W' :=
  ⟨(let ⟨cs, a, b⟩ := h.tab; ⟨cs, a.below hb a.lt, b⟩), h.bel.trans (hb.mono h.bel.size)⟩
theorem TabU.drew (h : TabU T M G k w W) : TabU T M G k w W.drew := ⟨h.tab, h.bel.drew⟩
theorem TabU.put (h : TabU T M G k w W) (hG : w.heap.size ≤ G) (v : Value) : TabU T M G k w (W.setCell ⟨G, k, none⟩ v) :=
  ⟨(let ⟨cs, a, b, d⟩ := h.tab; ⟨cs.setIfInBounds k v, a.set k v, by simp [b], fun j hj => by
    rw [Array.getElem?_setIfInBounds, if_neg (by omega)]; exact d j hj⟩), h.bel.setCell (p := ⟨G, k, none⟩) (by show w.heap.size ≤ G; omega) v⟩
theorem TabU.next (h : TabU T M G k w W) (hG : w.heap.size ≤ G) (hk : k < M) (v : Value) (hv : v = .int .u8 (bitC (T k))) : TabU T M G (k + 1) w (W.setCell ⟨G, k, none⟩ v) :=
  ⟨(let ⟨cs, a, b, d⟩ := h.tab; ⟨cs.setIfInBounds k v, a.set k v, by simp [b], fun j hj => by
    rw [Array.getElem?_setIfInBounds]
    by_cases e : j = k
    · subst e; rw [if_pos rfl, if_pos (by omega), hv]
    · rw [if_neg (by omega)]; exact d j (by omega)⟩), (h.put hG v).bel⟩
theorem TabU.all (h : TabU T M G k w W) (hk : k < M) : W.cell? ⟨G, k, none⟩ = some (cellW W ⟨G, k, none⟩) ∧ W.frozen? ⟨G, k, none⟩ = false ∧ TabU T M G k w W := by
  obtain ⟨cs, a, b, d⟩ := h.tab
  refine ⟨?_, a.free k, h⟩
  unfold cellW
  rw [a.cell, Array.getElem?_eq_getElem (show k < cs.size by omega)]
  rfl
/-- The table as a text. -/
theorem TabU.text (h : TabU T M G M w W) : (convert 43 9 (.slice (some ⟨G, 0, none⟩) M M)).run Try.prog W = .ok (.string (tbS T M)) W := by
  obtain ⟨cs, hG, hcs, hf⟩ := h.tab
  have hcv := run_convert_bytes_back (P := Try.prog) W 43 9 5 ⟨G, 0, none⟩ M (tbB T M) Try.underlying43 Try.underlying5 Try.underlying9 (fun j hj => by
    rw [tbB_len] at hj
    have h1 : W.cell? ⟨G, j, none⟩ = some (.int .u8 ((tbB T M)[j].toNat : Int)) := by
      rw [hG.cell, hf j hj]
      simp only [tbB, List.getElem_map, List.getElem_range, bitC]
      split <;> rfl
    rw [← h1]
    unfold Addr.add
    split
    · rename_i h0; rw [h0]
    · simp)
  rw [tbB_len] at hcv
  exact hcv
end

theorem held2j {p0 p1 K : Prop} (h : p0 ∧ p1 ∧ K) : K := h.2.2

set_option maxRecDepth 100000 in
set_option maxHeartbeats 6400000 in
theorem specJoin_any (op : Int) (T U : Nat → Bool) (n : Nat) (w : World) (hn : n ≤ 1024) :
    Calls Try.prog 51 #[.int .i64 op, .string (tbS T n), .string (tbS U n)] w fun e w' => e = .returned (.string (tbS (fun j => opB op (T j) (U j)) n)) ∧ Below w.heap.size w w' := by
  have C : Hid (∀ a b W, _) := Lib.hid fun a b W => specOp_any op a b W
  have sT := tbS_size T n
  have sU := tbS_size U n
  have HT := Lib.hid (tbS_at T n)
  have HU := Lib.hid (tbS_at U n)
  have HV : Hid (∀ k, (fun j => opB op (T j) (U j)) k = opB op (T k) (U k)) := Lib.hid fun _ => rfl
  generalize (fun j => opB op (T j) (U j)) = V at HV ⊢
  have hmk := mk_bytes n (by omega)
  generalize tbS T n = a at sT HT ⊢
  generalize tbS U n = b at sU HU ⊢
  subst sT
  go_enter Try.func51, Try.ntmps51
  go_wp2_with fail
  clear hmk
  have hG := Box.new w 5 (madeCells #[.int .u8 0] a.size)
  have hB := (Below.refl w.heap.size w).alloc (Nat.le_refl _) (.cells (madeCells #[.int .u8 0] a.size) 5)
  generalize hW : World.alloc _ _ = W0 at hB hG ⊢
  clear hW
  have hK : TabU V a.size w.heap.size 0 w W0 := ⟨⟨_, hG, size_madeCells _ _, fun j h => by omega⟩, hB⟩
  clear hG hB
  go_loopg [14] a.size (fun q iv wr => ∃ k : Nat, k + q = a.size ∧ iv = .int .i64 (k : Nat) ∧ TabU V a.size w.heap.size k w wr)
  case atStart => exact ⟨0, by omega, rfl, hK⟩
  case round =>
    clear hK
    obtain ⟨k, hk, rfl, hK⟩ := hrel
    by_cases hk0 : k < a.size
    · have HK := Lib.hid hK
      obtain ⟨g0, gf, _⟩ := hK.all hk0
      clear hK
      have hk1 : k < b.size := by omega
      have ea := HT.out k hk0
      have eb := HU.out k hk1
      have HVk := Lib.hid (HV.out k)
      go_upto_region 5 with fail
      go_region_held3 (fun w' => w'.cell? ⟨w.heap.size, k, none⟩ = some (cellW w' ⟨w.heap.size, k, none⟩) ∧ w'.frozen? ⟨w.heap.size, k, none⟩ = false ∧ TabU V a.size w.heap.size k w w')
        ((refine TabU.all ?_ hk0; first | exact HK.out.drew | exact held2j (by assumption) | exact TabU.by (by assumption) (held2j (by assumption)) | exact TabU.put (held2j (by assumption)) (Nat.le_refl _) _))
        (first
          | (go_at_call 78; with_reducible refine (C.out (T k) (U k) _).mono ?_; rintro e w5 ⟨rfl, rfl⟩))
      all_goals
        go_wp2_with fail
        go_roundg (gk - 1)
        case rel => first
          | exact ⟨k + 1, by omega, by go_num, TabU.next HK.out.drew (Nat.le_refl _) hk0 _ (by rw [HVk.out])⟩
          | exact ⟨k + 1, by omega, by go_num, (TabU.next HK.out (Nat.le_refl _) hk0 _ (by rw [HVk.out])).drew⟩
        case measure => omega
    · obtain rfl : k = a.size := by omega
      have hcv := hK.text
      have hB := hK.bel
      clear hK
      go_wp2_with fail
      go_ret
      exact ⟨rfl, hB⟩

end Go.Proofs.Ytamjfcckgeakfaa
