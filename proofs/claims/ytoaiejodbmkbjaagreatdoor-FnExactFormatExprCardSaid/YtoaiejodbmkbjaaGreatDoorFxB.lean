/-
  The text of an expression, the mathematics: in full, and cut off past six thousand bytes.
-/
import Derived.Test.YtoaiejodbmkbjaaGreatDoorFxA
import Derived.Test.YtoaiejodbmkbjaaGreatDoorExprs3
namespace Go.Proofs.YtoaiejodbmkbjaaGreatDoor
open Go.RowKit Num

theorem exsOk_in {F : Nat → Nat → Int} {m : Nat} : ∀ {n k : Nat}, exsOk F m n = true → k < n → exOk (F k 0) (F k 1) (F k 2) (F k 3) k m = true
  | 0, _, _, h => absurd h (Nat.not_lt_zero _)
  | n + 1, k, h, hk => by
    simp only [exsOk, Bool.and_eq_true] at h
    by_cases e : k = n
    · subst e
      exact h.2
    · exact exsOk_in h.1 (by omega)
/-- The operands come before. -/
theorem ops_below {F : Nat → Nat → Int} {m n i : Nat} (h : exsOk F m n = true) (hi : i < n) (h1 : F i 0 ≠ 1) (h2 : F i 0 ≠ 2) : (0 ≤ F i 1 ∧ F i 1 < (i : Int)) ∧ (F i 0 ≠ 10 → 0 ≤ F i 2 ∧ F i 2 < (i : Int)) ∧ (F i 0 = 10 → F i 2 = 0) ∧ 3 ≤ F i 0 ∧ F i 0 ≤ 10 := by
  have ho := exsOk_in h hi
  by_cases h10 : F i 0 = 10
  · simp only [exOk, if_neg h1, if_neg h2, if_pos h10, decide_eq_true_eq] at ho
    exact ⟨by omega, fun h => absurd h10 h, fun _ => by omega, by omega, by omega⟩
  · simp only [exOk, if_neg h1, if_neg h2, if_neg h10, decide_eq_true_eq] at ho
    exact ⟨by omega, fun _ => by omega, fun h => absurd h h10, by omega, by omega⟩

/-- The word between two operands. -/
def opW (o : Int) : ByteArray :=
  if o = 3 then ⟨#[43]⟩ else if o = 4 then ⟨#[45]⟩ else if o = 5 then ⟨#[42]⟩ else if o = 6 then ⟨#[61]⟩ else if o = 7 then ⟨#[60]⟩ else if o = 8 then ⟨#[97, 110, 100]⟩ else if o = 9 then ⟨#[111, 114]⟩ else ⟨#[]⟩
/-- Expression k's text out of its operands' texts. -/
def fullB (F : Nat → Nat → Int) (vn g : Nat → ByteArray) (k : Nat) : ByteArray :=
  if F k 0 = 1 then ⟨(decL (F k 3).toNat).toArray⟩ else if F k 0 = 2 then vn (F k 3).toNat
  else if F k 0 = 10 then ((⟨#[40, 110, 111, 116, 32]⟩ : ByteArray) ++ g (F k 1).toNat) ++ ⟨#[41]⟩
  else ((((((⟨#[40]⟩ : ByteArray) ++ g (F k 1).toNat) ++ ⟨#[32]⟩) ++ opW (F k 0)) ++ ⟨#[32]⟩) ++ g (F k 2).toNat) ++ ⟨#[41]⟩
def fulls (F : Nat → Nat → Int) (vn : Nat → ByteArray) : Nat → Nat → ByteArray
  | 0, _ => ⟨#[]⟩
  | k + 1, j => if j = k then fullB F vn (fulls F vn k) k else fulls F vn k j
/-- The whole text of expression k. -/
def full (F : Nat → Nat → Int) (vn : Nat → ByteArray) (k : Nat) : ByteArray := fulls F vn (k + 1) k
/-- .. or none, if it is too long. -/
def capT (F : Nat → Nat → Int) (vn : Nat → ByteArray) (k : Nat) : ByteArray := if (full F vn k).size ≤ 6000 then full F vn k else ⟨#[]⟩
/-- What the program makes of an expression, out of what it holds of the operands. -/
def progB (F : Nat → Nat → Int) (vn g : Nat → ByteArray) (k : Nat) : ByteArray :=
  if F k 0 = 1 ∨ F k 0 = 2 then fullB F vn g k else if g (F k 1).toNat = ⟨#[]⟩ ∨ (F k 0 ≠ 10 ∧ g (F k 2).toNat = ⟨#[]⟩) then ⟨#[]⟩ else fullB F vn g k

theorem fulls_at {F : Nat → Nat → Int} {vn : Nat → ByteArray} {j : Nat} : ∀ {k : Nat}, j < k → fulls F vn k j = full F vn j
  | 0, h => absurd h (Nat.not_lt_zero _)
  | k + 1, h => by
    by_cases e : j = k
    · subst e; rfl
    · rw [fulls, if_neg e, fulls_at (by omega)]

theorem fullB_congr {F : Nat → Nat → Int} {vn g g' : Nat → ByteArray} {k : Nat} (ha : F k 0 ≠ 1 → F k 0 ≠ 2 → g (F k 1).toNat = g' (F k 1).toNat) (hb : F k 0 ≠ 1 → F k 0 ≠ 2 → F k 0 ≠ 10 → g (F k 2).toNat = g' (F k 2).toNat) : fullB F vn g k = fullB F vn g' k := by
  unfold fullB
  by_cases h1 : F k 0 = 1
  · rw [if_pos h1, if_pos h1]
  · by_cases h2 : F k 0 = 2
    · rw [if_neg h1, if_neg h1, if_pos h2, if_pos h2]
    · by_cases h3 : F k 0 = 10
      · rw [if_neg h1, if_neg h1, if_neg h2, if_neg h2, if_pos h3, if_pos h3, ha h1 h2]
      · rw [if_neg h1, if_neg h1, if_neg h2, if_neg h2, if_neg h3, if_neg h3, ha h1 h2, hb h1 h2 h3]

theorem full_eq {F : Nat → Nat → Int} {vn : Nat → ByteArray} {m n k : Nat} (h : exsOk F m n = true) (hk : k < n) : full F vn k = fullB F vn (full F vn) k := by
  rw [full, fulls, if_pos rfl]
  refine fullB_congr (fun h1 h2 => ?_) (fun h1 h2 h3 => ?_)
  · have := ops_below h hk h1 h2
    exact fulls_at (by omega)
  · have := (ops_below h hk h1 h2).2.1 h3
    exact fulls_at (by omega)

theorem decL_pos (n : Nat) : 1 ≤ (decL n).length := by
  by_cases h : n < 10
  · rw [decL_small n h]; simp
  · rw [decL_step n (by omega)]; simp

theorem full_const {F : Nat → Nat → Int} {vn : Nat → ByteArray} {m n k : Nat} (h : exsOk F m n = true) (hk : k < n) (h1 : F k 0 = 1) : full F vn k = ⟨(decL (F k 3).toNat).toArray⟩ ∧ 0 ≤ F k 3 ∧ F k 3 ≤ 20 := by
  refine ⟨by rw [full_eq h hk, fullB, if_pos h1], ?_⟩
  have := exsOk_in h hk
  simp only [exOk, h1, if_true, decide_eq_true_eq] at this
  omega
theorem full_var {F : Nat → Nat → Int} {vn : Nat → ByteArray} {m n k : Nat} (h : exsOk F m n = true) (hk : k < n) (h2 : F k 0 = 2) : full F vn k = vn (F k 3).toNat ∧ 0 ≤ F k 3 ∧ F k 3 < m := by
  refine ⟨by rw [full_eq h hk, fullB, if_neg (by omega), if_pos h2], ?_⟩
  have := exsOk_in h hk
  simp only [exOk, h2] at this
  simp at this
  omega
theorem full_not {F : Nat → Nat → Int} {vn : Nat → ByteArray} {m n k : Nat} (h : exsOk F m n = true) (hk : k < n) (h3 : F k 0 = 10) : full F vn k = ((⟨#[40, 110, 111, 116, 32]⟩ : ByteArray) ++ full F vn (F k 1).toNat) ++ ⟨#[41]⟩ := by
  rw [full_eq h hk, fullB, if_neg (by omega), if_neg (by omega), if_pos h3]
theorem full_op {F : Nat → Nat → Int} {vn : Nat → ByteArray} {m n k : Nat} (h : exsOk F m n = true) (hk : k < n) (h1 : F k 0 ≠ 1) (h2 : F k 0 ≠ 2) (h3 : F k 0 ≠ 10) : full F vn k = ((((((⟨#[40]⟩ : ByteArray) ++ full F vn (F k 1).toNat) ++ ⟨#[32]⟩) ++ opW (F k 0)) ++ ⟨#[32]⟩) ++ full F vn (F k 2).toNat) ++ ⟨#[41]⟩ := by
  rw [full_eq h hk, fullB, if_neg h1, if_neg h2, if_neg h3]
theorem size_not (a : ByteArray) : (((⟨#[40, 110, 111, 116, 32]⟩ : ByteArray) ++ a) ++ ⟨#[41]⟩).size = a.size + 6 := by
  simp only [ByteArray.size_append]
  have e1 : (⟨#[40, 110, 111, 116, 32]⟩ : ByteArray).size = 5 := rfl
  have e2 : (⟨#[41]⟩ : ByteArray).size = 1 := rfl
  omega
theorem size_op (a b o : ByteArray) : (((((((⟨#[40]⟩ : ByteArray) ++ a) ++ ⟨#[32]⟩) ++ o) ++ ⟨#[32]⟩) ++ b) ++ ⟨#[41]⟩).size = a.size + b.size + 4 + o.size := by
  simp only [ByteArray.size_append]
  have e1 : (⟨#[40]⟩ : ByteArray).size = 1 := rfl
  have e2 : (⟨#[41]⟩ : ByteArray).size = 1 := rfl
  have e3 : (⟨#[32]⟩ : ByteArray).size = 1 := rfl
  omega
theorem size_dec {n : Nat} (h : n ≤ 20) : 1 ≤ (⟨(decL n).toArray⟩ : ByteArray).size ∧ (⟨(decL n).toArray⟩ : ByteArray).size ≤ 5 := by
  have e : (⟨(decL n).toArray⟩ : ByteArray).size = (decL n).length := by simp [ByteArray.size]
  rw [e]
  exact ⟨decL_pos n, decL_len n (by omega)⟩

theorem full_pos {F : Nat → Nat → Int} {vn : Nat → ByteArray} {m n k : Nat} (h : exsOk F m n = true) (hv : ∀ j, j < m → 1 ≤ (vn j).size) (hk : k < n) : 1 ≤ (full F vn k).size := by
  by_cases h1 : F k 0 = 1
  · obtain ⟨e, a, b⟩ := full_const (vn := vn) h hk h1
    rw [e]; exact (size_dec (by omega)).1
  · by_cases h2 : F k 0 = 2
    · obtain ⟨e, a, b⟩ := full_var (vn := vn) h hk h2
      rw [e]; exact hv _ (by omega)
    · by_cases h3 : F k 0 = 10
      · rw [full_not h hk h3, size_not]; omega
      · rw [full_op h hk h1 h2 h3, size_op]; omega

theorem nil_size {a : ByteArray} : a = ⟨#[]⟩ ↔ a.size = 0 := by
  constructor
  · rintro rfl; rfl
  · intro h
    apply ByteArray.ext
    exact Array.eq_empty_of_size_eq_zero h

theorem capT_nil {F : Nat → Nat → Int} {vn : Nat → ByteArray} {k : Nat} (h : 1 ≤ (full F vn k).size) : capT F vn k = ⟨#[]⟩ ↔ 6000 < (full F vn k).size := by
  unfold capT
  split
  · rw [nil_size]; omega
  · exact ⟨fun _ => by omega, fun _ => rfl⟩
theorem capT_size (F : Nat → Nat → Int) (vn : Nat → ByteArray) (k : Nat) : (capT F vn k).size ≤ 6000 := by
  unfold capT
  split
  · assumption
  · exact Nat.zero_le _
theorem capT_ne {F : Nat → Nat → Int} {vn : Nat → ByteArray} {k : Nat} (h : ¬ capT F vn k = ⟨#[]⟩) : capT F vn k = full F vn k := by
  unfold capT at *
  split
  · rfl
  · rename_i h2; rw [if_neg h2] at h; exact absurd rfl h

/-- One round: what the program makes of the capped texts is the capped text. -/
theorem cap_step {F : Nat → Nat → Int} {vn g : Nat → ByteArray} {m n k : Nat} (h : exsOk F m n = true) (hv : ∀ j, j < m → 1 ≤ (vn j).size ∧ (vn j).size ≤ 8) (hk : k < n) (hg : ∀ j, j < k → g j = capT F vn j) :
    (if (progB F vn g k).size ≤ 6000 then progB F vn g k else ⟨#[]⟩) = capT F vn k := by
  by_cases h1 : F k 0 = 1
  · obtain ⟨e, a, b⟩ := full_const (vn := vn) h hk h1
    have eP : progB F vn g k = full F vn k := by
      have hc : F k 0 = 1 ∨ F k 0 = 2 := .inl h1
      rw [progB, if_pos hc, fullB, if_pos h1, e]
    rw [eP, capT]
  · by_cases h2 : F k 0 = 2
    · obtain ⟨e, a, b⟩ := full_var (vn := vn) h hk h2
      have eP : progB F vn g k = full F vn k := by
        have hc : F k 0 = 1 ∨ F k 0 = 2 := .inr h2
        rw [progB, if_pos hc, fullB, if_neg h1, if_pos h2, e]
      rw [eP, capT]
    · have ho := ops_below h hk h1 h2
      have ea : g (F k 1).toNat = capT F vn (F k 1).toNat := hg _ (by omega)
      have pa : 1 ≤ (full F vn (F k 1).toNat).size := full_pos h (fun j hj => (hv j hj).1) (by omega)
      have hne : ¬ (F k 0 = 1 ∨ F k 0 = 2) := by omega
      by_cases h3 : F k 0 = 10
      · have eF := full_not (vn := vn) h hk h3
        by_cases hn : g (F k 1).toNat = ⟨#[]⟩
        · have hc : g (F k 1).toNat = ⟨#[]⟩ ∨ (F k 0 ≠ 10 ∧ g (F k 2).toNat = ⟨#[]⟩) := .inl hn
          have eP : progB F vn g k = ⟨#[]⟩ := by rw [progB, if_neg hne, if_pos hc]
          have hp := (capT_nil pa).1 (ea ▸ hn)
          have hbig : ¬ (full F vn k).size ≤ 6000 := by rw [eF, size_not]; omega
          rw [eP, capT, if_neg hbig]
          simp
        · have hc : ¬ (g (F k 1).toNat = ⟨#[]⟩ ∨ (F k 0 ≠ 10 ∧ g (F k 2).toNat = ⟨#[]⟩)) := fun x => x.elim hn fun y => y.1 h3
          have eP : progB F vn g k = full F vn k := by
            rw [progB, if_neg hne, if_neg hc, fullB, if_neg h1, if_neg h2, if_pos h3, eF, ea, capT_ne (ea ▸ hn)]
          rw [eP, capT]
      · have eF := full_op (vn := vn) h hk h1 h2 h3
        have hb := ho.2.1 h3
        have eb : g (F k 2).toNat = capT F vn (F k 2).toNat := hg _ (by omega)
        have pb : 1 ≤ (full F vn (F k 2).toNat).size := full_pos h (fun j hj => (hv j hj).1) (by omega)
        by_cases hc : g (F k 1).toNat = ⟨#[]⟩ ∨ (F k 0 ≠ 10 ∧ g (F k 2).toNat = ⟨#[]⟩)
        · have eP : progB F vn g k = ⟨#[]⟩ := by rw [progB, if_neg hne, if_pos hc]
          have hbig : ¬ (full F vn k).size ≤ 6000 := by
            rw [eF, size_op]
            rcases hc with hn | ⟨_, hn⟩
            · have := (capT_nil pa).1 (ea ▸ hn)
              omega
            · have := (capT_nil pb).1 (eb ▸ hn)
              omega
          rw [eP, capT, if_neg hbig]
          simp
        · have hn : ¬ g (F k 1).toNat = ⟨#[]⟩ := fun x => hc (.inl x)
          have hn2 : ¬ g (F k 2).toNat = ⟨#[]⟩ := fun x => hc (.inr ⟨h3, x⟩)
          have eP : progB F vn g k = full F vn k := by
            rw [progB, if_neg hne, if_neg hc, fullB, if_neg h1, if_neg h2, if_neg h3, eF, ea, eb, capT_ne (ea ▸ hn), capT_ne (eb ▸ hn2)]
          rw [eP, capT]

/-- The program's list of texts after k rounds. -/
def caps (F : Nat → Nat → Int) (vn : Nat → ByteArray) (k : Nat) : Nat → ByteArray := fun j => if j < k then capT F vn j else ⟨#[]⟩
/-- The model's list of lengths after k rounds. -/
def szs (F : Nat → Nat → Int) (vn : Nat → ByteArray) (k : Nat) : Nat → Int := fun j => if j < k then ((min (full F vn j).size 6001 : Nat) : Int) else 0

end Go.Proofs.YtoaiejodbmkbjaaGreatDoor
