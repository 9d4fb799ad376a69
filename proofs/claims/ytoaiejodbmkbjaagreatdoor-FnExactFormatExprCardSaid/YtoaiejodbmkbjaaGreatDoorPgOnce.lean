/-
  The blocks of a program, the mathematics: every statement once, and the program's list of the blocks.
-/
import Derived.Test.YtoaiejodbmkbjaaGreatDoorPgIm2
import Derived.Test.YtoaiejodbmkbjaaGreatDoorPgIs0
namespace Go.Proofs.YtoaiejodbmkbjaaGreatDoor
open Go.RowKit Num

/-- Every statement stands in just one block, as the program asks it. -/
def OnceOk (P : Prg) : Prop := (∀ x ∈ lsS P P.ns, 0 ≤ x ∧ x < (P.ns : Int)) ∧ (lsS P P.ns).Nodup ∧ ∀ m, m < P.ns → (m : Int) ∈ lsS P P.ns

theorem nodup_of_counts {l : List Int} (h : ∀ x ∈ l, l.count x ≤ 1) : l.Nodup := by
  induction l with
  | nil => exact List.nodup_nil
  | cons a l ih =>
    rw [List.nodup_cons]
    constructor
    · intro ha
      have h1 := h a (by simp)
      rw [List.count_cons_self] at h1
      have h2 := List.count_pos_iff.2 ha
      omega
    · apply ih
      intro x hx
      have h1 := h x (by simp [hx])
      have h2 : l.count x ≤ (a :: l).count x := by rw [List.count_cons]; omega
      omega

theorem count_of_nodup {l : List Int} (h : l.Nodup) (x : Int) : l.count x ≤ 1 := by
  induction l with
  | nil => simp
  | cons a l ih =>
    rw [List.nodup_cons] at h
    rw [List.count_cons]
    by_cases he : a = x
    · subst he
      rw [List.count_eq_zero.2 h.1]
      simp
    · rw [beq_eq_false_iff_ne.2 he]
      have := ih h.2
      simpa using this

theorem mem_lsS {P : Prg} {x : Int} : x ∈ lsS P P.ns ↔ (∃ j, j < P.nb ∧ P.bd j = x) ∨ (∃ k, k < P.np ∧ ∃ j, j < P.pl k ∧ P.pb k j = x) ∨ ∃ k, k < P.ns ∧ ((∃ j, j < (P.st k).nt ∧ (P.st k).th j = x) ∨ ∃ j, j < (P.st k).ne ∧ (P.st k).el j = x) := by
  simp only [lsS, lsP, List.mem_append, List.mem_flatMap, List.mem_range, mem_fl]
  constructor
  · rintro ((h | h) | h)
    · exact .inl h
    · exact .inr (.inl h)
    · exact .inr (.inr h)
  · rintro (h | h | h)
    · exact .inl (.inl h)
    · exact .inl (.inr h)
    · exact .inr h

theorem once_iff (P : Prg) : ((∀ i, i < P.ns → AftOk P i) ∧ OnceOk P) ↔ BlocksOk P := by
  constructor
  · rintro ⟨ha, hr, hn, hm⟩
    refine ⟨fun j hj => ?_, fun k hk j hj => ?_, fun k hk => ⟨fun j hj => ?_, fun j hj => ?_⟩, fun m hm0 => ?_⟩
    · have := hr _ (mem_lsS.2 (.inl ⟨j, hj, rfl⟩)); omega
    · have := hr _ (mem_lsS.2 (.inr (.inl ⟨k, hk, j, hj, rfl⟩))); omega
    · have h1 := hr _ (mem_lsS.2 (.inr (.inr ⟨k, hk, .inl ⟨j, hj, rfl⟩⟩)))
      have h2 := (ha k hk).1 j hj
      omega
    · have h1 := hr _ (mem_lsS.2 (.inr (.inr ⟨k, hk, .inr ⟨j, hj, rfl⟩⟩)))
      have h2 := (ha k hk).2 j hj
      omega
    · have h1 := count_of_nodup hn (m : Int)
      have h2 := List.count_pos_iff.2 (hm m hm0)
      omega
  · rintro ⟨hb, hp, hs, hc⟩
    have hr : ∀ x ∈ lsS P P.ns, 0 ≤ x ∧ x < (P.ns : Int) := by
      intro x hx
      rcases mem_lsS.1 hx with ⟨j, hj, rfl⟩ | ⟨k, hk, j, hj, rfl⟩ | ⟨k, hk, ⟨j, hj, rfl⟩ | ⟨j, hj, rfl⟩⟩
      · have := hb j hj; omega
      · have := hp k hk j hj; omega
      · have := (hs k hk).1 j hj; omega
      · have := (hs k hk).2 j hj; omega
    refine ⟨fun k hk => ⟨fun j hj => ?_, fun j hj => ?_⟩, hr, nodup_of_counts fun x hx => ?_, fun m hm => ?_⟩
    · have := (hs k hk).1 j hj; omega
    · have := (hs k hk).2 j hj; omega
    · obtain ⟨h0, h1⟩ := hr x hx
      obtain ⟨m, rfl⟩ : ∃ m : Nat, x = (m : Nat) := ⟨x.toNat, by omega⟩
      rw [hc m (by omega)]
      exact Nat.le_refl 1
    · apply List.count_pos_iff.1
      rw [hc m hm]
      exact Nat.one_pos

/-- The blocks, one after the other. -/
def blP (P : Prg) (k : Nat) : List (Nat × (Nat → Int)) := [(P.nb, P.bd)] ++ (List.range k).map fun j => (P.pl j, P.pb j)
def blS (P : Prg) (k : Nat) : List (Nat × (Nat → Int)) := blP P P.np ++ (List.range k).flatMap fun j => [((P.st j).nt, (P.st j).th), ((P.st j).ne, (P.st j).el)]
theorem blP_succ (P : Prg) (k : Nat) : blP P (k + 1) = blP P k ++ [(P.pl k, P.pb k)] := by simp [blP, List.range_succ]
theorem blS_succ (P : Prg) (k : Nat) : blS P (k + 1) = blS P k ++ [((P.st k).nt, (P.st k).th), ((P.st k).ne, (P.st k).el)] := by simp [blS, List.range_succ]
theorem blP_len (P : Prg) (k : Nat) : (blP P k).length = 1 + k := by simp [blP]; omega
theorem blS_len (P : Prg) (k : Nat) : (blS P k).length = 1 + P.np + 2 * k := by
  induction k with
  | zero => simp [blS, blP_len]
  | succ k ih => rw [blS_succ, List.length_append, ih]; simp; omega
def flat (l : List (Nat × (Nat → Int))) : List Int := l.flatMap fun p => fl p.1 p.2
theorem flat_blS (P : Prg) : flat (blS P P.ns) = lsS P P.ns := by
  simp [flat, blS, blP, lsS, lsP, List.flatMap_append, List.flatMap_map, List.flatMap_assoc]

/-- The cells are slices that read as the blocks. -/
def BlsAt (lo : Nat) (w : World) (xs : List Value) (l : List (Nat × (Nat → Int))) : Prop := xs.length = l.length ∧ ∀ (i : Nat) p, l[i]? = some p → ∃ A c, xs[i]? = some (.slice A p.1 c) ∧ IntsAt lo w A p.1 p.2
theorem BlsAt.one {lo : Nat} {w : World} {A : Option Addr} {n c : Nat} {f : Nat → Int} (h : IntsAt lo w A n f) : BlsAt lo w [.slice A n c] [(n, f)] := ⟨rfl, fun i p hp => by
  match i, hp with
  | 0, hp => simp at hp; subst hp; exact ⟨A, c, rfl, h⟩⟩
theorem BlsAt.app {lo : Nat} {w : World} {xs ys : List Value} {l m : List (Nat × (Nat → Int))} (h : BlsAt lo w xs l) (k : BlsAt lo w ys m) : BlsAt lo w (xs ++ ys) (l ++ m) := by
  refine ⟨by rw [List.length_append, List.length_append, h.1, k.1], fun i p hp => ?_⟩
  by_cases hi : i < l.length
  · rw [List.getElem?_append_left hi] at hp
    rw [List.getElem?_append_left (by rw [h.1]; exact hi)]
    exact h.2 i p hp
  · rw [List.getElem?_append_right (by omega)] at hp
    rw [List.getElem?_append_right (by rw [h.1]; omega), h.1]
    exact k.2 _ p hp

end Go.Proofs.YtoaiejodbmkbjaaGreatDoor
