/-
  Decision diagrams as arguments: what their reading gives the walk.
-/
import Derived.Test.YtamjfcckgeakfaaDgA
import Derived.Deep.Slices
import Derived.WideKeyArgs
import Derived.ProofKit
import Derived.OpenShut
import Derived.ChangeMaps5
import Derived.Deep.DeepHandedRow
namespace Go.Proofs.Ytamjfcckgeakfaa
open Go.ChangeShapes Go.WideShapes Go.ChangeAt Go.RowKit Go.ChangeMaps Num

theorem at_drop1W {cs : List Value} {k m : Nat} {v : Value} (hm : m = 1) (h : (cs.drop k).take m = [v]) : cs[k]? = some v := by
  subst hm
  have h1 := congrArg (fun l : List Value => l[0]?) h
  simpa [List.getElem?_take, List.getElem?_drop] using h1

theorem cell_lt1W {W : World} {p : Addr} {v : Value} (h : W.cell? p = some v) : p.block < W.heap.size := by
  unfold World.cell? at h
  rcases Nat.lt_or_ge p.block W.heap.size with h' | h'
  · exact h'
  · rw [Array.getElem?_eq_none h'] at h; cases h

/-- Any cell of a list, as a function. -/
def celFW (cs : List Value) (c : Nat) : Value := cs.getD c undef
theorem celFW_eq {cs : List Value} {c : Nat} {v : Value} (h : cs[c]? = some v) : celFW cs c = v := by simp [celFW, List.getD, h]
theorem celFW_at {cs : List Value} {K c : Nat} (hl : cs.length = K) (hc : c < K) : cs[c]? = some (celFW cs c) := by
  subst hl
  simp [celFW, List.getD, List.getElem?_eq_getElem hc]

set_option maxRecDepth 100000 in
theorem list_ofW {H : Type} {enc : TypeId × Value → H} {W : World} {α : Type} [Inhabited α] {t e : TypeId} {K fuel : Nat} {cs : List Value} {x : DataW H × List MemPlace} (hK0 : 0 < K) (ht : Try.prog.underlying t = some (.slice e)) (hc : Try.prog.cellsOf e = K) (Q : α → (Nat → Value) → Prop)
    (hel : ∀ (n : Nat) (cs' : List Value) (y : DataW H × List MemPlace), DataW.trod enc Try.prog W 0 (fun _ => true) true n e cs' = some y → ∃ z C, Q z C ∧ ∀ c, c < K → cs'[c]? = some (C c))
    (h : DataW.trod enc Try.prog W 0 (fun _ => true) true fuel t cs = some x) :
    ∃ A0 n cap, ∃ z : Nat → α, cs = [.slice A0 n cap] ∧ n ≤ maxLen ∧ (0 < n → ∃ b off, A0 = some ⟨b, off, none⟩ ∧ Stand 0 W b ∧ ∀ j, j < n → ∃ C : Nat → Value, Q (z j) C ∧ ∀ c, c < K → W.cell? ⟨b, off + (j * K + c), none⟩ = some (C c)) ∧ ∀ j, j < n → ∃ C, Q (z j) C := by
  rcases Deep.open_slice ht h with ⟨hcs, _⟩ | ⟨a, len, cap', m, k, D, Pl, hcs, _, hl, hm, hmm, hx, hread⟩
  · exact ⟨none, 0, 0, fun _ => default, hcs, Nat.zero_le maxLen, fun h0 => absurd h0 (Nat.lt_irrefl 0), fun j hj => absurd hj (Nat.not_lt_zero j)⟩
  · rw [if_pos rfl] at hmm
    subst hmm
    rw [hc] at hread hx
    obtain ⟨F, hF⟩ := Deep.choose_lt (α := α) (n := len) (p := fun i z => ∃ C : Nat → Value, Q z C ∧ ∀ c, c < K → W.cell? ((a.add (i * K)).add c) = some (C c)) (fun i hi => by
      obtain ⟨cs', h1, h2⟩ := hread i (by omega)
      obtain ⟨_, _, h3⟩ := World.cells?_some h1
      obtain ⟨z, C, hz, hC⟩ := hel _ _ _ h2
      exact ⟨z, C, hz, fun c hc' => by rw [h3 c hc']; exact hC c hc'⟩)
    refine ⟨some a, len, _, F, hcs, by omega, fun h0 => ?_, fun j hj => ⟨_, (hF j hj).choose_spec.1⟩⟩
    obtain ⟨C0, _, hC0⟩ := hF 0 h0
    have h00 := hC0 0 hK0
    have hsp : a.spot = none := by
      rw [Nat.zero_mul, Deep.add_add, Nat.add_zero] at h00
      unfold Addr.add World.cell? at h00
      simp only [if_true] at h00
      split at h00
      · split at h00
        · cases h00
        · rename_i hs
          cases hsp : a.spot with
          | none => rfl
          | some q => rw [hsp] at hs; exact absurd rfl hs
      · cases h00
    refine ⟨a.block, a.off, ?_, .zero ?_, fun j hj => ?_⟩
    · cases a; simp only at hsp; subst hsp; rfl
    · rw [Deep.add_add] at h00
      have := cell_lt1W h00
      unfold Addr.add at this
      split at this <;> exact this
    · obtain ⟨C, hC, hcc⟩ := hF j hj
      refine ⟨C, hC, fun c hc' => ?_⟩
      have h01 := hcc c hc'
      rw [Deep.add_add] at h01
      rw [← h01]
      unfold Addr.add
      split
      · rename_i hz
        cases a; simp only at hsp; subst hsp; rw [hz]; rfl
      · rfl

theorem at_inW {cs : List Value} {k m i r : Nat} {v : Value} (hr : r = 1) (h : (((cs.drop k).take m).drop i).take r = [v]) : cs[k + i]? = some v := by
  have h1 := at_drop1W hr h
  rw [List.getElem?_take] at h1
  split at h1
  · rw [List.getElem?_drop] at h1
    exact h1
  · cases h1

set_option maxRecDepth 100000 in
theorem nds_of {H : Type} {enc : TypeId × Value → H} {W : World} {fuel : Nat} {cs : List Value} {x : DataW H × List MemPlace} (h : DataW.trod enc Try.prog W 0 (fun _ => true) true fuel 22 cs = some x) :
    ∃ A0 n cap f, cs = [.slice A0 n cap] ∧ n ≤ maxLen ∧ IntsAt 0 W A0 (n * 3) f := by
  have hi : Try.prog.cellsOf 3 = 1 := by kernel_rfl
  obtain ⟨A0, n, cap, z, e, hn, hA, _⟩ := list_ofW (α := Int × Int × Int) (K := 3) (by omega) Try.underlying22 (by kernel_rfl) (fun z C => C 0 = .int .i64 z.1 ∧ C 1 = .int .i64 z.2.1 ∧ C 2 = .int .i64 z.2.2) (fun n cs' y hy => by
    obtain ⟨xs, n, _, rfl, hl, hlen, hf⟩ := DataW.trod_struct Try.underlying99 hy
    have h3 : xs.length = 3 := hlen
    have h0 := hf 0 _ rfl
    have h1 := hf 1 _ rfl
    have h2 := hf 2 _ rfl
    rw [List.getElem?_eq_getElem (by omega)] at h0 h1 h2
    obtain ⟨z0, e0, _, _⟩ := DataW.trod_int Try.underlying3 h0
    obtain ⟨z1, e1, _, _⟩ := DataW.trod_int Try.underlying3 h1
    obtain ⟨z2, e2, _, _⟩ := DataW.trod_int Try.underlying3 h2
    exact ⟨(z0, z1, z2), celFW cs', ⟨celFW_eq (at_drop1W hi e0), celFW_eq (at_drop1W hi e1), celFW_eq (at_drop1W hi e2)⟩, fun c hc => celFW_at (by rw [hl]; kernel_rfl) hc⟩) h
  refine ⟨A0, n, cap, fun j => if j % 3 = 0 then (z (j / 3)).1 else if j % 3 = 1 then (z (j / 3)).2.1 else (z (j / 3)).2.2, e, hn, fun h0 => ?_⟩
  obtain ⟨b, off, rfl, hb, hr⟩ := hA (by omega)
  refine ⟨b, off, rfl, hb, fun j hj => ?_⟩
  obtain ⟨C, ⟨c0, c1, c2⟩, hc⟩ := hr (j / 3) (by omega)
  have h3 := hc (j % 3) (Nat.mod_lt _ (by omega))
  rw [show j / 3 * 3 + j % 3 = j by omega] at h3
  rw [h3]
  have : j % 3 = 0 ∨ j % 3 = 1 ∨ j % 3 = 2 := by omega
  rcases this with e | e | e
  · rw [e, c0]; simp [e]
  · rw [e, c1]; simp [e]
  · rw [e, c2]; simp [e]

set_option maxRecDepth 100000 in
theorem dg_of {H : Type} {enc : TypeId × Value → H} {W : World} {v : Value} {d : DataW H} {ps : List MemPlace} (hok : Value.okWide Try.prog W .any 0 24 v) (h : DataW.Trod enc Try.prog W 0 (fun _ => true) true 24 v d ps) :
    ∃ (L r : Int) (A0 : Option Addr) (n c : Nat) (f : Nat → Int), v = dgV L A0 n c r ∧ n ≤ maxLen ∧ IntsAt 0 W A0 (n * 3) f := by
  obtain ⟨cs0, rfl, hsz⟩ := okWide_struct Try.underlying24 hok
  have hc3 : Try.prog.cellsOf 24 = 3 := by kernel_rfl
  obtain ⟨fuel, hf0⟩ := h
  obtain ⟨xs, n, _, _, hl, hlen, hf⟩ := DataW.trod_struct Try.underlying24 hf0
  have hi : Try.prog.cellsOf 3 = 1 := by kernel_rfl
  have hs : Try.prog.cellsOf 22 = 1 := by kernel_rfl
  have h3 : xs.length = 3 := hlen
  have h0 := hf 0 _ rfl
  have h1 := hf 1 _ rfl
  have h2 := hf 2 _ rfl
  rw [List.getElem?_eq_getElem (by omega)] at h0 h1 h2
  obtain ⟨z0, e0, _, _⟩ := DataW.trod_int Try.underlying3 h0
  obtain ⟨A0, m, c, f, e1, hm, hI⟩ := nds_of h1
  obtain ⟨z2, e2, _, _⟩ := DataW.trod_int Try.underlying3 h2
  have g0 := at_drop1W hi e0
  have g1 := at_drop1W hs e1
  have g2 := at_drop1W hi e2
  refine ⟨z0, z2, A0, m, c, f, ?_, hm, hI⟩
  rw [hc3] at hsz
  obtain ⟨l⟩ := cs0
  match l, hsz with
  | [v0, v1, v2], _ =>
    have t0 : some v0 = some (Value.int .i64 z0) := g0
    have t1 : some v1 = some (Value.slice A0 m c) := g1
    have t2 : some v2 = some (Value.int .i64 z2) := g2
    cases t0; cases t1; cases t2
    rfl

end Go.Proofs.Ytamjfcckgeakfaa
