/-
  Truth tables: the model's number of variables.
-/
import Derived.Test.YtfeejdbkolpjoaaDoorDnA
namespace Go.Proofs.YtfeejdbkolpjoaaDoor
open Go.RowKit Num

set_option maxRecDepth 100000 in
set_option maxHeartbeats 1600000 in
theorem specLev_any (s : ByteArray) (w : World) (hs : s.size ≤ 1048576) :
    Calls Tryd.prog 6 #[.string s] w fun e w' => (∃ z : Int, e = .returned (.int .i64 z) ∧ Hid ((∃ n : Nat, z = n ∧ Tb s n) ∨ (z = -1 ∧ ∀ n, ¬ Tb s n))) ∧ Below w.heap.size w w' := by
  have C : Hid (∀ W, _) := Lib.hid fun W => specBits_any s W hs
  go_enter Tryd.func6, Tryd.ntmps6
  go_wp2_with fail
  go_loopg [3] 11 (fun q iv wr => ∃ k : Nat, k + q = 11 ∧ iv = .int .i64 (k : Nat) ∧ Hid (∀ j, j < k → ¬ Tb s j) ∧ Below w.heap.size w wr)
  case atStart => exact ⟨0, by omega, rfl, Lib.hid fun j h => by omega, Below.refl _ _⟩
  case round =>
    obtain ⟨k, hk, rfl, hq, hbel⟩ := hrel
    by_cases hk0 : k < 11
    · have wk : IntKind.u64.wrap (k : Int) = (k : Int) := IntWalk.u64_in _ (by omega)
      have hk1 : (k : Int) ≤ 10 := by omega
      obtain ⟨p, hp⟩ : ∃ p : Nat, p = 2 ^ k := ⟨_, rfl⟩
      have hp1 : p ≤ 1024 := by rw [hp]; exact Nat.le_trans (Nat.pow_le_pow_right (by omega) (show k ≤ 10 by omega)) (by decide)
      have wp : IntKind.i64.wrap ((2 : Int) ^ k) = (p : Int) := by
        have : ((2 : Int) ^ k) = (p : Int) := by rw [hp]; simp
        rw [this]; exact IntWalk.i64_in _ (by omega)
      have wp' : IntKind.i64.wrap (1 * (2 : Int) ^ k) = (p : Int) := by rw [Int.one_mul]; exact wp
      have HP := Lib.hid hp
      clear hp
      by_cases hz : s.size = p
      · have e1 : (((s.size : Nat) : Int) == (p : Int)) = true := by rw [hz]; exact beq_self_eq_true _
        have HZ := Lib.hid hz
        clear hz
        go_wp2_with (go_at_call 13; refine (C.out _).mono ?_; rintro e w1 ⟨r, rfl, hr, hb1⟩; have hB := hbel.trans (hb1.mono hbel.size); clear hb1)
        all_goals first
          | (go_ret
             exact ⟨⟨(k : Int), rfl, Lib.hid (.inl ⟨k, rfl, by omega, HZ.out.trans HP.out, hr.out.1 (by assumption)⟩)⟩, hB⟩)
          | (have HF : Hid (r = false) := Lib.hid (by assumption)
             go_roundg (gk - 1)
             case rel => exact ⟨k + 1, by omega, by go_num, Lib.hid fun j hj h => by
               by_cases hjk : j < k
               · exact hq.out j hjk h
               · obtain rfl : j = k := by omega
                 have := hr.out.2 h.2.2
                 rw [HF.out] at this
                 exact Bool.false_ne_true this, hB⟩
             case measure => omega)
      · have e1 : (((s.size : Nat) : Int) == (p : Int)) = false := by rw [beq_eq_false_iff_ne]; omega
        have HZ := Lib.hid hz
        clear hz
        go_wp2_with fail
        go_roundg (gk - 1)
        case rel => exact ⟨k + 1, by omega, by go_num, Lib.hid fun j hj h => by
          by_cases hjk : j < k
          · exact hq.out j hjk h
          · obtain rfl : j = k := by omega
            exact HZ.out (h.2.1.trans HP.out.symm), hbel⟩
        case measure => omega
    · obtain rfl : k = 11 := by omega
      go_wp2_with fail
      go_ret
      exact ⟨⟨-1, rfl, Lib.hid (.inr ⟨rfl, fun n h => hq.out n (by have := h.1; omega) h⟩)⟩, hbel⟩

/-- Between two terms. -/
def sepL : List UInt8 := [32, 43, 32]
/-- The terms for the ones among the first k bytes. -/
def terms (s : ByteArray) (n k : Nat) : List (List UInt8) := ((List.range k).filter (fun i => decide (s.data[i]? = some 49))).map (bin n)
/-- The form of a table of n variables. -/
def dnf (s : ByteArray) (n : Nat) : ByteArray := if n = 0 then s else if terms s n s.size = [] then ⟨#[48]⟩ else ⟨(Lib.join (terms s n s.size) sepL).toArray⟩

theorem terms_one {s : ByteArray} {n k : Nat} (h : s.data[k]? = some 49) : terms s n (k + 1) = terms s n k ++ [bin n k] := by
  simp [terms, List.range_succ, List.filter_append, h]
theorem terms_zero {s : ByteArray} {n k : Nat} (h : s.data[k]? ≠ some 49) : terms s n (k + 1) = terms s n k := by
  simp [terms, List.range_succ, List.filter_append, h]

theorem join_snoc (xs : List (List UInt8)) (y sep : List UInt8) : Lib.join (xs ++ [y]) sep = if xs = [] then y else Lib.join xs sep ++ sep ++ y := by
  cases xs with
  | nil => simp [Lib.join_one]
  | cons x r =>
    rw [if_neg (by simp), List.cons_append, Lib.join_cons, Lib.join_cons]
    simp [Lib.joinTail]

theorem terms_mem {s : ByteArray} {n k : Nat} {x : List UInt8} (h : x ∈ terms s n k) : x.length = n := by
  rw [terms, List.mem_map] at h
  obtain ⟨i, _, rfl⟩ := h
  exact bin_len n i

theorem terms_len (s : ByteArray) (n : Nat) (hn : n ≤ 10) : ∀ k, (Lib.join (terms s n k) sepL).length ≤ 13 * k
  | 0 => by simp [terms, Lib.join_nil]
  | k + 1 => by
    have ih := terms_len s n hn k
    by_cases h : s.data[k]? = some 49
    · rw [terms_one h, join_snoc]
      split
      · rw [bin_len]; omega
      · rw [List.length_append, List.length_append, bin_len]
        have : sepL.length = 3 := rfl
        omega
    · rw [terms_zero h]; omega

theorem terms_nil {s : ByteArray} {n k : Nat} (hn : 0 < n) (h : Lib.join (terms s n k) sepL = []) : terms s n k = [] := by
  cases hx : terms s n k with
  | nil => rfl
  | cons x r =>
    rw [hx, Lib.join_cons] at h
    have h1 := (List.append_eq_nil_iff.1 h).1
    have h2 := terms_mem (s := s) (n := n) (k := k) (x := x) (by rw [hx]; simp)
    rw [h1] at h2
    simp at h2
    omega

theorem pow_inj {a b : Nat} (h : 2 ^ a = 2 ^ b) : a = b := by
  rcases Nat.lt_trichotomy a b with k | k | k
  · have := Nat.pow_lt_pow_right (show 1 < 2 by omega) k
    omega
  · exact k
  · have := Nat.pow_lt_pow_right (show 1 < 2 by omega) k
    omega
theorem Tb.unique {s : ByteArray} {n m : Nat} (h : Tb s n) (k : Tb s m) : n = m := pow_inj (h.2.1.symm.trans k.2.1)

open Classical in
/-- The answer, whatever the table. -/
noncomputable def dnfR (s : ByteArray) : ByteArray × Bool := if h : ∃ n, Tb s n then (dnf s h.choose, true) else (⟨#[]⟩, false)
theorem dnfR_yes {s : ByteArray} {n : Nat} (h : Tb s n) : dnfR s = (dnf s n, true) := by
  have h' : ∃ n, Tb s n := ⟨n, h⟩
  rw [dnfR, dif_pos h', h.unique h'.choose_spec]
theorem dnfR_no {s : ByteArray} (h : ∀ n, ¬ Tb s n) : dnfR s = (⟨#[]⟩, false) := by
  rw [dnfR, dif_neg fun ⟨n, k⟩ => h n k]

set_option maxRecDepth 100000 in
set_option maxHeartbeats 3200000 in
theorem specDnf_no (s : ByteArray) (w : World) (hs : s.size ≤ 1048576) (h : ∀ n, ¬ Tb s n) :
    Calls Tryd.prog 4 #[.string s] w fun e w' => e = .returned (.tuple #[.string (dnfR s).1, .bool (dnfR s).2]) ∧ Below w.heap.size w w' := by
  have C := Lib.hid (specLev_any s w hs)
  have H := Lib.hid h
  clear h
  go_enter Tryd.func4, Tryd.ntmps4
  go_wp2_with (go_at_call 6; refine C.out.mono ?_; rintro e w1 ⟨⟨z, rfl, hz⟩, hb1⟩; obtain rfl : z = -1 := (by rcases hz.out with ⟨n, _, k⟩ | ⟨rfl, _⟩; exact absurd k (H.out n); rfl))
  all_goals first
    | (exfalso; omega)
    | (go_ret2
       exact ⟨by rw [dnfR_no H.out]; rfl, hb1⟩)

set_option maxRecDepth 100000 in
set_option maxHeartbeats 3200000 in
theorem specDnf_yes (s : ByteArray) (n : Nat) (w : World) (hs : s.size ≤ 1048576) (h : Tb s n) :
    Calls Tryd.prog 4 #[.string s] w fun e w' => e = .returned (.tuple #[.string (dnfR s).1, .bool (dnfR s).2]) ∧ Below w.heap.size w w' := by
  have C := Lib.hid (specLev_any s w hs)
  have C2 : Hid (∀ (k : Nat) W, k ≤ 1048576 → _) := Lib.hid fun k W hk => specNum_any k n W hk (by have := h.1; omega)
  have H := Lib.hid h
  have hn10 := h.1
  have hs10 : s.size ≤ 1024 := by rw [h.2.1]; exact Nat.le_trans (Nat.pow_le_pow_right (by omega) h.1) (by decide)
  clear h
  have HR := Lib.hid (dnfR_yes H.out)
  by_cases hn : n = 0
  · subst hn
    go_enter Tryd.func4, Tryd.ntmps4
    go_wp2_with (go_at_call 6; refine C.out.mono ?_; rintro e w1 ⟨⟨z, rfl, hz⟩, hb1⟩; obtain rfl : z = (0 : Nat) := (by rcases hz.out with ⟨n, rfl, k⟩ | ⟨_, k⟩; rw [k.unique H.out]; exact absurd H.out (k 0)))
    go_ret2
    exact ⟨by rw [HR.out]; rfl, hb1⟩
  · have hn0 : (((n : Nat) : Int) == 0) = false := by rw [beq_eq_false_iff_ne]; omega
    go_enter Tryd.func4, Tryd.ntmps4
    go_wp2_with (go_at_call 6; refine C.out.mono ?_; rintro e w1 ⟨⟨z, rfl, hz⟩, hb1⟩; obtain rfl : z = (n : Nat) := (by rcases hz.out with ⟨n', rfl, k⟩ | ⟨_, k⟩; rw [k.unique H.out]; exact absurd H.out (k n)); clear hz)
    go_loopg [5, 6] s.size (fun q sv iv wr => ∃ k : Nat, k + q = s.size ∧ sv = .string ⟨(Lib.join (terms s n k) sepL).toArray⟩ ∧ iv = .int .i64 (k : Nat) ∧ Below w.heap.size w wr)
    case atStart => exact ⟨0, by omega, rfl, rfl, hb1⟩
    case round =>
      obtain ⟨k, hk, rfl, rfl, hbel⟩ := hrel
      have hT := terms_len s n hn10 k
      have hTn := Lib.hid (terms_nil (s := s) (n := n) (k := k) (by omega))
      have hTz : Hid (terms s n k = [] → Lib.join (terms s n k) sepL = []) := Lib.hid fun e => by rw [e]; rfl
      have hsn := join_snoc (terms s n k) (bin n k) sepL
      obtain ⟨T, hTT⟩ : ∃ T, T = Lib.join (terms s n k) sepL := ⟨_, rfl⟩
      rw [← hTT] at hT hTn hTz hsn
      rw [← hTT]
      have HT := Lib.hid hTT
      have HS := Lib.hid hsn
      clear hTT hsn
      by_cases hk0 : k < s.size
      · have hb := Lib.hid (byte_at hk0)
        have hbin := bin_len n k
        rcases H.out.2.2 k _ hb.out with e0 | e1
        · have f1 : (((s[k]'hk0).toNat : Int) == 48) = true := by rw [e0]; rfl
          have HZ : Hid (s.data[k]? ≠ some 49) := Lib.hid (by have h := hb.out; rw [Array.getElem?_toList] at h; rw [h, e0]; decide)
          clear e0
          go_wp2_with fail
          go_roundg (gk - 1)
          case rel => exact ⟨k + 1, by omega, by rw [terms_zero HZ.out, ← HT.out], by go_num, hbel⟩
          case measure => omega
        · have f1 : (((s[k]'hk0).toNat : Int) == 48) = false := by rw [e1]; rfl
          have HZ : Hid (s.data[k]? = some 49) := Lib.hid (by have h := hb.out; rw [Array.getElem?_toList] at h; rw [h, e1])
          clear e1
          cases T with
          | nil =>
            go_wp2_with (go_at_call 7; refine (C2.out k _ (by omega)).mono ?_; rintro e w2 ⟨rfl, hb2⟩; have hB := hbel.trans (hb2.mono hbel.size); clear hb2)
            go_roundg (gk - 1)
            case rel => exact ⟨k + 1, by omega, by rw [terms_one HZ.out, HS.out, if_pos (hTn.out (by first | rfl | trivial))]; simp; apply ByteArray.ext; simp, by go_num, hB⟩
            case measure => omega
          | cons a b =>
            simp only [List.length_cons] at hT
            go_wp2_with (go_at_call 7; refine (C2.out k _ (by omega)).mono ?_; rintro e w2 ⟨rfl, hb2⟩; have hB := hbel.trans (hb2.mono hbel.size); clear hb2)
            go_roundg (gk - 1)
            case rel => exact ⟨k + 1, by omega, by rw [terms_one HZ.out, HS.out, if_neg (fun h => by have := hTz.out h; cases this)]; simp [sepL]; apply ByteArray.ext; simp, by go_num, hB⟩
            case measure => omega
      · obtain rfl : k = s.size := by omega
        cases T with
        | nil =>
          go_wp2_with fail
          go_ret2
          exact ⟨by rw [HR.out, dnf, if_neg hn, if_pos (hTn.out (by first | rfl | trivial))]; rfl, hbel⟩
        | cons a b =>
          go_wp2_with fail
          go_ret2
          exact ⟨by rw [HR.out, dnf, if_neg hn, if_neg (fun h => by have := hTz.out h; cases this), ← HT.out]; rfl, hbel⟩

end Go.Proofs.YtfeejdbkolpjoaaDoor
