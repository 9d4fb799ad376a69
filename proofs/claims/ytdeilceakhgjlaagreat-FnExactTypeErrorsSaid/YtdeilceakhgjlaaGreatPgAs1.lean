/-
  Assigned variables, the mathematics: the set of visited procedures and the set of variables, through a block.
-/
import Derived.Test.YtdeilceakhgjlaaGreatPgPv
import Derived.Test.YtdeilceakhgjlaaGreatPgVs
namespace Go.Proofs.YtdeilceakhgjlaaGreat
open Go.RowKit Num

/-- Procedures that were visited, and variables. -/
abbrev Sg := (Nat → Bool) × (Nat → Bool)
def foldS (g : Int → Sg → Sg) (b : Nat → Int) : Nat → Sg → Sg
  | 0, s => s
  | k + 1, s => g (b k) (foldS g b k s)
/-- An assignment. -/
def asg (s : Stm) (σ : Sg) : Sg := if s.kind = 2 ∨ s.kind = 3 then (σ.1, setU σ.2 s.var.toNat) else σ
/-- A statement nested to depth d, given what a call does. -/
def asD (P : Prg) (call : Int → Sg → Sg) : Nat → Int → Sg → Sg
  | 0, _, σ => σ
  | d + 1, i, σ => foldS (asD P call d) (P.st i.toNat).el (P.st i.toNat).ne (foldS (asD P call d) (P.st i.toNat).th (P.st i.toNat).nt (if (P.st i.toNat).kind = 8 then call (P.st i.toNat).proc (asg (P.st i.toNat) σ) else asg (P.st i.toNat) σ))
/-- A call of procedure q, when at most f procedures have not been visited. -/
def asC (P : Prg) : Nat → Int → Sg → Sg
  | 0 => fun _ σ => σ
  | f + 1 => fun q σ => if σ.1 q.toNat = true then σ else foldS (asD P (asC P f) P.ns) (P.pb q.toNat) (P.pl q.toNat) (setU σ.1 q.toNat, σ.2)

def Grow (σ τ : Sg) : Prop := ∀ q, σ.1 q = true → τ.1 q = true
theorem Grow.refl (σ : Sg) : Grow σ σ := fun _ h => h
theorem Grow.trans {a b c : Sg} (h : Grow a b) (k : Grow b c) : Grow a c := fun q hq => k q (h q hq)
theorem foldS_grow {g : Int → Sg → Sg} (hg : ∀ i σ, Grow σ (g i σ)) (b : Nat → Int) : ∀ (n : Nat) (σ : Sg), Grow σ (foldS g b n σ)
  | 0, σ => Grow.refl σ
  | n + 1, σ => (foldS_grow hg b n σ).trans (hg _ _)
theorem asg_grow (s : Stm) (σ : Sg) : Grow σ (asg s σ) := by
  unfold asg
  split
  · exact fun _ h => h
  · exact Grow.refl σ
theorem asD_grow {P : Prg} {call : Int → Sg → Sg} (hc : ∀ q σ, Grow σ (call q σ)) : ∀ (d : Nat) (i : Int) (σ : Sg), Grow σ (asD P call d i σ)
  | 0, _, σ => Grow.refl σ
  | d + 1, i, σ => by
    refine Grow.trans ?_ ((foldS_grow (asD_grow hc d) _ _ _).trans (foldS_grow (asD_grow hc d) _ _ _))
    split
    · exact (asg_grow _ σ).trans (hc _ _)
    · exact asg_grow _ σ
theorem asC_grow {P : Prg} : ∀ (f : Nat) (q : Int) (σ : Sg), Grow σ (asC P f q σ)
  | 0, _, σ => Grow.refl σ
  | f + 1, q, σ => by
    show Grow σ (if σ.1 q.toNat = true then σ else _)
    split
    · exact Grow.refl σ
    · refine Grow.trans (b := (setU σ.1 q.toNat, σ.2)) (fun j hj => ?_) (foldS_grow (asD_grow (asC_grow f) _) _ _ _)
      show setU σ.1 q.toNat j = true
      simp [setU, hj]

/-- How many procedures have not been visited. -/
def unv (np : Nat) (σ : Sg) : Nat := (List.range np).countP fun q => !σ.1 q
theorem unv_grow {np : Nat} {σ τ : Sg} (h : Grow σ τ) : unv np τ ≤ unv np σ := by
  apply List.countP_mono_left
  intro q _ hq
  cases e : σ.1 q with
  | false => rfl
  | true => rw [h q e] at hq; exact hq
theorem unv_set {np q : Nat} {σ : Sg} (hq : q < np) (h : σ.1 q = false) (x : Nat → Bool) : unv np (setU σ.1 q, x) + 1 ≤ unv np σ := by
  unfold unv
  rw [range_split hq, List.countP_append, List.countP_append, List.countP_cons, List.countP_cons]
  have h1 : setU σ.1 q q = true := by simp [setU]
  have h2 : (List.range q).countP (fun j => !(setU σ.1 q, x).1 j) ≤ (List.range q).countP (fun j => !σ.1 j) := by
    apply List.countP_mono_left
    intro j _ hj
    cases e : σ.1 j with
    | false => rfl
    | true => simp [setU, e] at hj
  have h3 : (List.range' (q + 1) (np - q - 1)).countP (fun j => !(setU σ.1 q, x).1 j) ≤ (List.range' (q + 1) (np - q - 1)).countP (fun j => !σ.1 j) := by
    apply List.countP_mono_left
    intro j _ hj
    cases e : σ.1 j with
    | false => rfl
    | true => simp [setU, e] at hj
  dsimp only at h2 h3
  simp only [h, h1, Bool.not_true, Bool.not_false, if_true, Bool.false_eq_true, if_false]
  omega
theorem unv_le (np : Nat) (σ : Sg) : unv np σ ≤ np := by
  have := List.countP_le_length (p := fun q => !σ.1 q) (l := List.range np)
  rwa [List.length_range] at this
theorem unv_zero {np q : Nat} {σ : Sg} (h : unv np σ ≤ 0) (hq : q < np) : σ.1 q = true := by
  cases e : σ.1 q with
  | true => rfl
  | false => have := unv_set hq e σ.2; omega

/-- The cells are n bools. -/
def BoolsC (cs : Array Value) (n : Nat) (u : Nat → Bool) : Prop := cs.size = n ∧ ∀ j, j < n → cs[j]? = some (.bool (u j))
theorem BoolsC.at_ {cs : Array Value} {n k : Nat} {u : Nat → Bool} (h : BoolsC cs n u) {w : World} {G : Nat} {t : TypeId} (hb : Box w G t cs) (hk : k < n) : w.cell? ⟨G, k, none⟩ = some (.bool (u k)) := by
  rw [hb.cell]; exact h.2 k hk
theorem BoolsC.put {cs : Array Value} {n k : Nat} {u : Nat → Bool} (h : BoolsC cs n u) (hk : k < n) : BoolsC (cs.setIfInBounds k (.bool true)) n (setU u k) := by
  refine ⟨by rw [Array.size_setIfInBounds]; exact h.1, fun j hj => ?_⟩
  rw [Array.getElem?_setIfInBounds]
  by_cases hjk : k = j
  · subst hjk
    rw [if_pos rfl, if_pos (by rw [h.1]; exact hk)]
    simp [setU]
  · have : (j == k) = false := beq_eq_false_iff_ne.2 (Ne.symm hjk)
    rw [if_neg hjk, setU, this, Bool.or_false]
    exact h.2 j hj
theorem BoolsC.congr {cs : Array Value} {n : Nat} {u v : Nat → Bool} (h : BoolsC cs n u) (e : ∀ j, j < n → u j = v j) : BoolsC cs n v := ⟨h.1, fun j hj => by rw [← e j hj]; exact h.2 j hj⟩

end Go.Proofs.YtdeilceakhgjlaaGreat
