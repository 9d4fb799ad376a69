/-
  Decision diagrams, the model: building a diagram out of a table.
-/
import Derived.Test.YtamjfcckgeakfaaDgQ
import Derived.Deep.AppendLies
import Derived.Deep.RegionLaw
namespace Go.Proofs.Ytamjfcckgeakfaa
open Go.RowKit Num

/-- The cells of nodes. -/
def cells3 (ns : List Dg.Nd) : List Value := ns.flatMap fun x => [.int .i64 (x.1 : Nat), .int .i64 (x.2.1 : Nat), .int .i64 (x.2.2 : Nat)]
/-- The ints of nodes. -/
def nf (ns : List Dg.Nd) (j : Nat) : Int := if j % 3 = 0 then ((ns.getD (j / 3) (0, 0, 0)).1 : Nat) else if j % 3 = 1 then ((ns.getD (j / 3) (0, 0, 0)).2.1 : Nat) else ((ns.getD (j / 3) (0, 0, 0)).2.2 : Nat)

theorem cells3_len : ∀ ns : List Dg.Nd, (cells3 ns).length = ns.length * 3
  | [] => rfl
  | x :: ns => by
    have := cells3_len ns
    unfold cells3 at this ⊢
    rw [List.flatMap_cons, List.length_append, this, List.length_cons]
    simp
    omega
theorem cells3_snoc (ns : List Dg.Nd) (x : Dg.Nd) : cells3 (ns ++ [x]) = cells3 ns ++ [.int .i64 (x.1 : Nat), .int .i64 (x.2.1 : Nat), .int .i64 (x.2.2 : Nat)] := by simp [cells3]
theorem cells3_get : ∀ (ns : List Dg.Nd) (j : Nat), j < ns.length * 3 → (cells3 ns)[j]? = some (.int .i64 (nf ns j))
  | [], j, h => by simp at h
  | x :: ns, j, h => by
    have e : cells3 (x :: ns) = [.int .i64 (x.1 : Nat), .int .i64 (x.2.1 : Nat), .int .i64 (x.2.2 : Nat)] ++ cells3 ns := by simp [cells3]
    rw [e]
    match j, h with
    | 0, _ => rfl
    | 1, _ => rfl
    | 2, _ => rfl
    | j + 3, h =>
      rw [List.getElem?_append_right (by simp), show j + 3 - [Value.int .i64 (x.1 : Nat), .int .i64 (x.2.1 : Nat), .int .i64 (x.2.2 : Nat)].length = j by simp, cells3_get ns j (by simp at h; omega)]
      unfold nf
      rw [show (j + 3) % 3 = j % 3 by omega, show (j + 3) / 3 = j / 3 + 1 by omega]
      simp

theorem nf_at (ns : List Dg.Nd) {k : Nat} (h : k < ns.length) : nf ns (k * 3) = ((ns[k].1 : Nat) : Int) ∧ nf ns (k * 3 + 1) = ((ns[k].2.1 : Nat) : Int) ∧ nf ns (k * 3 + 2) = ((ns[k].2.2 : Nat) : Int) := by
  have h0 : k * 3 % 3 = 0 := by omega
  have h1 : (k * 3 + 1) % 3 = 1 := by omega
  have h2 : (k * 3 + 2) % 3 = 2 := by omega
  have d0 : k * 3 / 3 = k := by omega
  have d1 : (k * 3 + 1) / 3 = k := by omega
  have d2 : (k * 3 + 2) / 3 = k := by omega
  unfold nf
  rw [h0, h1, h2, d0, d1, d2]
  simp [List.getD_eq_getElem?_getD, h]

/-- A builder: its nodes. -/
def Bd (w : World) (b : Nat) (ns : List Dg.Nd) : Prop := ∃ v, Box w b 94 #[v] ∧ w.ownsRow (b + 1) 86 3 v ns.length (cells3 ns)

theorem own3_ints {w : World} {base m c : Nat} {g : Option Addr} {t : TypeId} {ns : List Dg.Nd} (h : w.ownsRow base t 3 (.slice g m c) ns.length (cells3 ns)) : m = ns.length ∧ IntsAt base w g (ns.length * 3) (nf ns) := by
  rcases h.2 with ⟨e, h2⟩ | ⟨b, cap', cur, e, h3, h4, h5, h6, h7, h8⟩
  · injection e with e1 e2 e3
    exact ⟨by omega, fun h0 => by omega⟩
  · injection e with e1 e2 e3
    subst e1
    refine ⟨e2, fun h0 => ?_⟩
    have hx : Box w b t cur := h4
    refine ⟨b, 0, rfl, ⟨h3, heap_lt h4, fun _ => hx.free⟩, fun j hj => ?_⟩
    rw [Nat.zero_add, hx.cell, ← Array.getElem?_toList]
    have : (cur.toList.take (ns.length * 3))[j]? = (cells3 ns)[j]? := by rw [h8]
    rw [List.getElem?_take, if_pos hj, cells3_get ns j hj] at this
    exact this

theorem bld_len (T : Nat → Bool) (L : Nat) : ∀ m q ns, (Dg.bld T L m q ns).2.length + 1 ≤ ns.length + 2 ^ m
  | 0, q, ns => by rw [Dg.bld]; simp
  | m + 1, q, ns => by
    have h1 := bld_len T L m (2 * q) ns
    have h2 := bld_len T L m (2 * q + 1) (Dg.bld T L m (2 * q) ns).2
    have hp : 0 < 2 ^ m := Nat.pow_pos (by omega)
    rw [Dg.bld, Nat.pow_succ]
    split
    · show (Dg.bld T L m (2 * q + 1) (Dg.bld T L m (2 * q) ns).2).2.length + 1 ≤ _; omega
    · dsimp only
      split
      · omega
      · rw [List.length_append, List.length_singleton]; omega

theorem idx_first {ns : List Dg.Nd} {x : Dg.Nd} {k : Nat} (h : k < ns.length) (hx : ns[k] = x) (hb : ∀ j (hj : j < ns.length), j < k → ns[j] ≠ x) : ns.idxOf x = k := by
  have hm : x ∈ ns := by rw [← hx]; exact List.getElem_mem h
  have hi := List.idxOf_lt_length_iff.2 hm
  have hg := List.getElem_idxOf hi
  rcases Nat.lt_trichotomy (ns.idxOf x) k with h' | h' | h'
  · exact absurd hg (hb _ hi h')
  · exact h'
  · have := List.not_of_lt_findIdx (p := fun y => y == x) (xs := ns) (i := k) (by unfold List.idxOf at h'; exact h')
    simp [hx] at this

theorem half_lo {S : ByteArray} {T : Nat → Bool} {m q : Nat} (hz : S.size = 2 ^ (m + 1)) (hS : ∀ j, j < 2 ^ (m + 1) → S.data.toList[j]? = some (if T (q * 2 ^ (m + 1) + j) then 49 else 48)) :
    (S.extract 0 (2 ^ m)).size = 2 ^ m ∧ ∀ j, j < 2 ^ m → (S.extract 0 (2 ^ m)).data.toList[j]? = some (if T (2 * q * 2 ^ m + j) then 49 else 48) := by
  have hp : 2 ^ (m + 1) = 2 * 2 ^ m := by rw [Nat.pow_succ]; omega
  refine ⟨by rw [ByteArray.size_extract]; omega, fun j hj => ?_⟩
  have h1 := hS j (by omega)
  rw [ByteArray.data_extract, Array.getElem?_toList, Array.getElem?_extract]
  rw [Array.getElem?_toList] at h1
  have hsz : S.data.size = 2 ^ (m + 1) := hz
  rw [if_pos (by omega), Nat.zero_add, h1]
  congr 4
  rw [hp, ← Nat.mul_assoc, Nat.mul_comm q 2]

theorem half_hi {S : ByteArray} {T : Nat → Bool} {m q : Nat} (hz : S.size = 2 ^ (m + 1)) (hS : ∀ j, j < 2 ^ (m + 1) → S.data.toList[j]? = some (if T (q * 2 ^ (m + 1) + j) then 49 else 48)) :
    (S.extract (2 ^ m) S.size).size = 2 ^ m ∧ ∀ j, j < 2 ^ m → (S.extract (2 ^ m) S.size).data.toList[j]? = some (if T ((2 * q + 1) * 2 ^ m + j) then 49 else 48) := by
  have hp : 2 ^ (m + 1) = 2 * 2 ^ m := by rw [Nat.pow_succ]; omega
  refine ⟨by rw [ByteArray.size_extract]; omega, fun j hj => ?_⟩
  have h1 := hS (2 ^ m + j) (by omega)
  rw [ByteArray.data_extract, Array.getElem?_toList, Array.getElem?_extract]
  rw [Array.getElem?_toList] at h1
  have hsz : S.data.size = 2 ^ (m + 1) := hz
  rw [if_pos (by omega), h1]
  congr 4
  rw [hp, Nat.add_mul, Nat.one_mul, Nat.add_assoc]
  congr 1
  rw [← Nat.mul_assoc, Nat.mul_comm q 2]

end Go.Proofs.Ytamjfcckgeakfaa
