/-
  Names: the program's and the model's test whether a text is a valid name.
-/
import Derived.Test.YtamjfcckgeakfaaHold
import Derived.Lib.IndexBytes
namespace Go.Proofs.Ytamjfcckgeakfaa
open Go.RowKit Num

/-- Byte j of the text s. -/
def bt (s : ByteArray) (j : Nat) : Nat := (s.data.getD j 0).toNat

theorem bt_eq (s : ByteArray) (j : Nat) (h : j < s.size) : s[j].toNat = bt s j := by
  simp [bt, Array.getD, h]
  rfl

/-- The words that no name may be. -/
def kws : List (List UInt8) := [[115, 107, 105, 112], [102, 108, 105, 112], [111, 98, 115, 101, 114, 118, 101], [105, 102], [101, 108, 115, 101], [114, 101, 112, 101, 97, 116], [119, 104, 105, 108, 101], [109, 97, 120],
  [99, 97, 108, 108], [118, 97, 114], [112, 114, 111, 99], [102, 117, 101, 108], [97, 110, 100], [111, 114], [110, 111, 116], [99, 104, 111, 111, 115, 101]]

def isKw (s : ByteArray) : Bool := kws.contains s.toList

/-- n texts stand in a row from the address on. -/
def StrsAt (w : World) (A : Option Addr) (n : Nat) (S : Nat → ByteArray) : Prop :=
  0 < n → ∃ b off, A = some ⟨b, off, none⟩ ∧ b < w.heap.size ∧ ∀ j, j < n → w.cell? ⟨b, off + j, none⟩ = some (.string (S j))

def kw16 (j : Nat) : ByteArray := ⟨(kws.getD j []).toArray⟩

/-- A valid name. -/
def nameOk (s : ByteArray) : Bool := decide ((1 ≤ s.size ∧ s.size ≤ 8) ∧ ∀ j, j < s.size → (97 ≤ bt s j ∧ bt s j ≤ 122) ∨ (0 < j ∧ 48 ≤ bt s j ∧ bt s j ≤ 57)) && !isKw s

theorem bt_lt (s : ByteArray) (j : Nat) : bt s j < 256 := UInt8.toNat_lt _

theorem kw_iff (s : ByteArray) : isKw s = true ↔ ∃ j, j < 16 ∧ (kw16 j).toList = s.toList := by
  have e : ∀ j, (kw16 j).toList = kws.getD j [] := fun j => by rw [kw16, Lib.toList_data]
  simp only [e]
  rw [isKw, List.contains_iff_mem, List.mem_iff_getElem]
  constructor
  · rintro ⟨j, hj, h⟩
    refine ⟨j, hj, ?_⟩
    rw [← h, List.getD_eq_getElem?_getD, List.getElem?_eq_getElem hj]; rfl
  · rintro ⟨j, hj, h⟩
    refine ⟨j, hj, ?_⟩
    rw [← h, List.getD_eq_getElem?_getD, List.getElem?_eq_getElem hj]; rfl

theorem in3_any (n lo hi : Int) (w : World) :
    Calls Try.prog 40 #[.int .i64 n, .int .i64 lo, .int .i64 hi] w fun e w' => e = .returned (.bool (decide (lo ≤ n ∧ n ≤ hi))) ∧ w = w' := by
  by_cases h1 : lo ≤ n
  · have e : decide (lo ≤ n ∧ n ≤ hi) = decide (n ≤ hi) := by simp [h1]
    rw [e]
    go_enter Try.func40, Try.ntmps40
    go_wp2_with fail
    all_goals first
      | (go_ret; exact ⟨rfl, rfl⟩)
      | (exfalso; omega)
  · have e : decide (lo ≤ n ∧ n ≤ hi) = false := by simp [h1]
    rw [e]
    go_enter Try.func40, Try.ntmps40
    go_wp2_with fail
    all_goals first
      | (go_ret; exact ⟨rfl, rfl⟩)
      | (exfalso; omega)

theorem nameOk_false_at {s : ByteArray} {k : Nat} (hk : k < s.size) (h : ¬ ((97 ≤ bt s k ∧ bt s k ≤ 122) ∨ (0 < k ∧ 48 ≤ bt s k ∧ bt s k ≤ 57))) : nameOk s = false := by
  rw [nameOk, Bool.and_eq_false_iff]
  left
  rw [decide_eq_false_iff_not]
  exact fun hh => h (hh.2 k hk)
theorem nameOk_false_len {s : ByteArray} (h : ¬ (1 ≤ s.size ∧ s.size ≤ 8)) : nameOk s = false := by
  rw [nameOk, Bool.and_eq_false_iff]
  left
  rw [decide_eq_false_iff_not]
  exact fun hh => h hh.1
theorem nameOk_kw {s : ByteArray} (h : 1 ≤ s.size ∧ s.size ≤ 8) (hl : ∀ j, j < s.size → (97 ≤ bt s j ∧ bt s j ≤ 122) ∨ (0 < j ∧ 48 ≤ bt s j ∧ bt s j ≤ 57)) : nameOk s = !isKw s := by
  rw [nameOk, decide_eq_true (And.intro h hl), Bool.true_and]

end Go.Proofs.Ytamjfcckgeakfaa
