/-
  Numerals and the numbers that they say: there and back. (Pure.)
-/
import Derived.Test.YtmmonglcbkefmaaGreatDoorSumP
namespace Go.Proofs.YtmmonglcbkefmaaGreatDoor
open Go.RowKit Num

/-- The digits' texts, as the model writes them. -/
theorem decL_rd (d : Nat → Nat) (k : Nat) (hk : 0 < k) (hd : ∀ j, j < k → d j ≤ 9) (h0 : 1 ≤ d 0 ∨ k = 1) : decL (Read.rd d k) = (List.range k).map fun j => UInt8.ofNat (48 + d j) := by
  induction k with
  | zero => omega
  | succ k ih =>
    rw [List.range_succ, List.map_append, List.map_cons, List.map_nil]
    by_cases hk0 : k = 0
    · subst hk0
      have e : Read.rd d 1 = d 0 := by simp [Read.rd, Read.seg]
      rw [e, decL_small _ (by have := hd 0 (by omega); omega)]
      rfl
    · have h1 : 1 ≤ d 0 := by omega
      have hp : 1 ≤ Read.rd d k := Nat.le_trans (Nat.pow_pos (by omega)) (Read.rd_pos d k (by omega) h1)
      have hs : Read.rd d (k + 1) = 10 * Read.rd d k + d k := by simp [Read.rd, Read.seg]
      have h9 := hd k (by omega)
      rw [hs, decL_step _ (by omega), show (10 * Read.rd d k + d k) / 10 = Read.rd d k by omega, show (10 * Read.rd d k + d k) % 10 = d k by omega, ih (by omega) (fun j hj => hd j (by omega)) (.inl h1)]

theorem getD_in {a : Array UInt8} {i : Nat} (h : i < a.size) : a.getD i 0 = a[i] := by
  unfold Array.getD
  rw [dif_pos h]
  rfl

theorem bytes_range (s : ByteArray) : s.data.toList = (List.range s.size).map fun j => s.data.getD j 0 := by
  apply List.ext_getElem
  · rw [List.length_map, List.length_range, Array.length_toList]; rfl
  · intro i h1 h2
    have hi : i < s.data.size := by rw [← Array.length_toList]; exact h1
    rw [List.getElem_map, List.getElem_range, Array.getElem_toList]
    exact (getD_in hi).symm

/-- A numeral is what its number is written as. -/
theorem dec_numOf {s : ByteArray} (h : isNum s = true) : dec (numOf s) = s := by
  obtain ⟨h1, h2, h3⟩ := isNum_parts h
  unfold dec numOf
  rw [decL_rd (dgt s) s.size (by omega) (fun j hj => by have := h2 j hj; unfold dgt; omega) (by
    rcases h3 with h3 | h3
    · left; have := h2 0 (by omega); unfold dgt; omega
    · right; exact h3)]
  apply ByteArray.ext
  apply Array.ext'
  show ((List.range s.size).map fun j => UInt8.ofNat (48 + dgt s j)) = s.data.toList
  rw [bytes_range]
  refine List.map_congr_left fun j hj => ?_
  have hj' := List.mem_range.1 hj
  have := h2 j hj'
  have e : 48 + dgt s j = byt s j := by unfold dgt; omega
  rw [e]
  unfold byt
  exact UInt8.ofNat_toNat

/-- The number that a list of digits says. -/
def lval (l : List UInt8) : Nat := l.foldl (fun acc c => 10 * acc + (c.toNat - 48)) 0

theorem lval_snoc (l : List UInt8) (c : UInt8) : lval (l ++ [c]) = 10 * lval l + (c.toNat - 48) := by
  unfold lval
  rw [List.foldl_append]
  rfl

theorem rd_lval (s : ByteArray) (k : Nat) (hk : k ≤ s.size) : Read.rd (dgt s) k = lval (s.data.toList.take k) := by
  induction k with
  | zero => rfl
  | succ k ih =>
    have hs : Read.rd (dgt s) (k + 1) = 10 * Read.rd (dgt s) k + dgt s k := by simp [Read.rd, Read.seg]
    have hlt : k < s.data.toList.length := by rw [Array.length_toList]; exact hk
    rw [hs, ih (by omega), List.take_succ_eq_append_getElem hlt, lval_snoc]
    have hlt' : k < s.data.size := hk
    congr 1
    unfold dgt byt
    rw [getD_in hlt', Array.getElem_toList]

theorem numOf_lval (s : ByteArray) : numOf s = lval s.data.toList := by
  unfold numOf
  rw [rd_lval s s.size (Nat.le_refl _), List.take_of_length_le (by rw [Array.length_toList]; exact Nat.le_refl _)]

theorem digit_back (r : Nat) (hr : r < 10) : (UInt8.ofNat (48 + r)).toNat = 48 + r := by
  rw [UInt8.toNat_ofNat']
  omega

theorem lval_decL (n : Nat) : lval (decL n) = n := by
  induction n using Nat.strongRecOn with
  | ind n ih =>
    by_cases h : n < 10
    · rw [decL_small n h, show [UInt8.ofNat (48 + n)] = [] ++ [UInt8.ofNat (48 + n)] from rfl, lval_snoc, digit_back n h]
      show 10 * 0 + (48 + n - 48) = n
      omega
    · rw [decL_step n (by omega), lval_snoc, ih (n / 10) (by omega), digit_back _ (by omega)]
      omega

theorem numOf_dec (n : Nat) : numOf (dec n) = n := by
  rw [numOf_lval]
  exact lval_decL n

theorem decL_digits (n : Nat) : ∀ c ∈ decL n, 48 ≤ c.toNat ∧ c.toNat ≤ 57 := by
  induction n using Nat.strongRecOn with
  | ind n ih =>
    by_cases h : n < 10
    · rw [decL_small n h]
      intro c hc
      obtain rfl := List.mem_singleton.1 hc
      rw [digit_back n h]
      omega
    · rw [decL_step n (by omega)]
      intro c hc
      rcases List.mem_append.1 hc with hc | hc
      · exact ih (n / 10) (by omega) c hc
      · obtain rfl := List.mem_singleton.1 hc
        rw [digit_back _ (by omega)]
        omega

theorem decL_head (n : Nat) (hn : 0 < n) : ∃ c l, decL n = c :: l ∧ c.toNat ≠ 48 := by
  induction n using Nat.strongRecOn with
  | ind n ih =>
    by_cases h : n < 10
    · exact ⟨_, [], decL_small n h, by rw [digit_back n h]; omega⟩
    · obtain ⟨c, l, e, hc⟩ := ih (n / 10) (by omega) (by omega)
      exact ⟨c, l ++ [UInt8.ofNat (48 + n % 10)], by rw [decL_step n (by omega), e]; rfl, hc⟩

theorem decL_one (n : Nat) : 1 ≤ (decL n).length := by
  by_cases h : n = 0
  · subst h; decide
  · obtain ⟨c, l, e, _⟩ := decL_head n (by omega)
    rw [e]; simp

theorem isNum_dec (n : Nat) (h : (decL n).length ≤ 120) : isNum (dec n) = true := by
  have hsz := dec_size n
  have hb : ∀ j (hj : j < (decL n).length), byt (dec n) j = ((decL n)[j]).toNat := by
    intro j hj
    unfold byt dec
    simp [Array.getD, hj]
  unfold isNum
  refine decide_eq_true ⟨⟨by rw [hsz]; exact decL_one n, by omega⟩, fun j hj => ?_, ?_⟩
  · rw [hb j (by omega)]
    exact decL_digits n _ (List.getElem_mem _)
  · by_cases h0 : n = 0
    · right; rw [hsz, h0]; rfl
    · left
      obtain ⟨c, l, e, hc⟩ := decL_head n (by omega)
      rw [hb 0 (by have := decL_one n; omega)]
      simp only [e, List.getElem_cons_zero]
      exact hc

theorem fits_parts {n d : Nat} (h : fits n d = true) : (decL n).length ≤ 120 ∧ (decL d).length ≤ 120 := by
  unfold fits at h
  simpa using h

/-- A fraction in lowest terms, written out, is a valid Rat. -/
theorem validR_dec {sg : Bool} {N D : Nat} (h : LowO (sg, N, D)) (hf : fits N D = true) : validR sg (dec N) (dec D) = true := by
  obtain ⟨h1, h2⟩ := fits_parts hf
  have hp := h.pos
  have hg := h.gcd
  have hs := h.sign
  simp only at hp hg hs
  unfold validR
  rw [isNum_dec N h1, isNum_dec D h2, numOf_dec, numOf_dec]
  simp only [Bool.true_and, Bool.and_eq_true, decide_eq_true_eq]
  refine ⟨⟨by omega, fun h0 => ⟨?_, ?_⟩⟩, hg⟩
  · cases sg with
    | false => rfl
    | true => have := hs rfl; omega
  · subst h0
    rw [Nat.gcd_zero_left] at hg
    exact hg

theorem num_fits {x y : ByteArray} (hx : isNum x = true) (hy : isNum y = true) : fits (numOf x) (numOf y) = true := by
  have h1 := dec_size (numOf x)
  have h2 := dec_size (numOf y)
  rw [dec_numOf hx] at h1
  rw [dec_numOf hy] at h2
  obtain ⟨⟨_, a⟩, _⟩ := isNum_parts hx
  obtain ⟨⟨_, b⟩, _⟩ := isNum_parts hy
  unfold fits
  rw [decide_eq_true (by omega : (decL (numOf x)).length ≤ 120), decide_eq_true (by omega : (decL (numOf y)).length ≤ 120)]
  rfl

/-- A valid Rat is what its fraction is handed back as. -/
theorem ratRes_valid {b : Bool} {x y : ByteArray} (h : validR b x y = true) : ratRes b (numOf x) (numOf y) = .tuple #[.agg #[.bool b, .string x, .string y], .bool true] := by
  obtain ⟨hx, hy, _, _⟩ := validR_num h
  unfold ratRes
  rw [if_pos (num_fits hx hy)]
  unfold okRat
  rw [dec_numOf hx, dec_numOf hy]

theorem low_valid {b : Bool} {x y : ByteArray} (h : validR b x y = true) : LowO (b, numOf x, numOf y) := by
  obtain ⟨_, _, h3, h4⟩ := validR_num h
  refine ⟨by show 0 < numOf y; omega, validR_gcd h, fun hs => ?_⟩
  show 0 < numOf x
  rcases Nat.eq_zero_or_pos (numOf x) with e | e
  · have := h4 e
    rw [show b = true from hs] at this
    cases this
  · exact e

end Go.Proofs.YtmmonglcbkefmaaGreatDoor
