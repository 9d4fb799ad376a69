/-
  Several texts in one: NumeralS, NumeralW.
-/
import Derived.Test.YtdjldhkmcmbiiaaDoorSmall
import Derived.WalkSpells
import Derived.Lib.IndexBytes
/-
  The model's test whether a text is a numeral.
-/
namespace Go.Proofs.YtdjldhkmcmbiiaaDoor
open Go.RowKit Num

theorem in_any (n lo hi : Int) (w : World) :
    Calls Tryd.prog 58 #[.int .i64 n, .int .i64 lo, .int .i64 hi] w fun e w' => e = .returned (.bool (decide (lo ≤ n ∧ n ≤ hi))) ∧ w = w' := by
  by_cases h1 : lo ≤ n
  · have e : decide (lo ≤ n ∧ n ≤ hi) = decide (n ≤ hi) := by simp [h1]
    rw [e]
    go_enter Tryd.func58, Tryd.ntmps58
    go_wp2_with fail
    all_goals first
      | (go_ret; exact ⟨rfl, rfl⟩)
      | (exfalso; omega)
  · have e : decide (lo ≤ n ∧ n ≤ hi) = false := by simp [h1]
    rw [e]
    go_enter Tryd.func58, Tryd.ntmps58
    go_wp2_with fail
    all_goals first
      | (go_ret; exact ⟨rfl, rfl⟩)
      | (exfalso; omega)

/-- Byte j of the text s. -/
def byt (s : ByteArray) (j : Nat) : Nat := (s.data.getD j 0).toNat

theorem byt_eq (s : ByteArray) (j : Nat) (h : j < s.size) : s[j].toNat = byt s j := by
  simp [byt, Array.getD, h]
  rfl

/-- A numeral: 1 to 120 digits, the first one not 0 unless it stands alone. -/
def isNum (s : ByteArray) : Bool := decide ((1 ≤ s.size ∧ s.size ≤ 120) ∧ (∀ j, j < s.size → 48 ≤ byt s j ∧ byt s j ≤ 57) ∧ (byt s 0 ≠ 48 ∨ s.size = 1))

set_option maxHeartbeats 800000 in
theorem numeral_any (s : ByteArray) (w : World) (hs : s.size ≤ 9223372036854775807) :
    Calls Tryd.prog 77 #[.string s] w fun e w' => e = .returned (.bool (isNum s)) ∧ ∃ nq, w' = w.drewN nq := by
  obtain ⟨r, hr⟩ : ∃ r, r = isNum s := ⟨_, rfl⟩
  rw [← hr]
  have Hr := Lib.hid hr; clear hr
  go_enter Tryd.func77, Tryd.ntmps77
  go_wp2_with fail
  go_loopw [3] (fun i wr => ∃ k nq : Nat, (k ≤ s.size ∧ ∀ j, j < k → 48 ≤ byt s j ∧ byt s j ≤ 57) ∧ i = .int .i64 (k : Int) ∧ wr = w.drewN nq) (fun i _ => ((s.size : Int) - intOf i).toNat)
  case atStart => exact ⟨0, 0, ⟨by omega, fun j h => by omega⟩, rfl, rfl⟩
  case round =>
    obtain ⟨k, n0, hk', rfl, hwr⟩ := hrel
    have hk := hk'.1
    have Hk := Lib.hid hk'.2; clear hk'
    have Hwr := Lib.hid hwr; clear hwr
    by_cases hk0 : k < s.size
    · have hb := byt_eq s k hk0
      by_cases hdig : 48 ≤ byt s k ∧ byt s k ≤ 57
      · have hd1 : decide ((s[k].toNat : Int) < 48) = false := by rw [decide_eq_false_iff_not]; omega
        have hd2 : decide ((57 : Int) < (s[k].toNat : Int)) = false := by rw [decide_eq_false_iff_not]; omega
        have Hdig := Lib.hid hdig; clear hdig
        have Hb := Lib.hid hb; clear hb
        go_wp2_with fail
        all_goals first
          | (refine ⟨⟨k + 1, n0, ⟨by omega, fun j hj => ?_⟩, by simp, Hwr.out⟩, by simp [intOf]; omega⟩
             by_cases hjk : j < k
             · exact Hk.out j hjk
             · obtain rfl : j = k := by omega
               exact Hdig.out)
          | (exfalso; have := Hdig.out; have := Hb.out; omega)
      · have hf : isNum s = false := by rw [isNum, decide_eq_false_iff_not]; rintro ⟨-, h, -⟩; exact hdig (h k hk0)
        have hrf : r = false := by rw [Hr.out]; exact hf
        subst hrf
        go_wp2_with fail
        all_goals first
          | (go_ret; exact ⟨rfl, n0, Hwr.out⟩)
          | (exfalso; omega)
    · obtain rfl : k = s.size := by omega
      by_cases hsz : 1 ≤ s.size ∧ s.size ≤ 120
      · have hb := byt_eq s 0 (by omega)
        have hin : decide ((1 : Int) ≤ (s.size : Int) ∧ (s.size : Int) ≤ 120) = true := by rw [decide_eq_true_iff]; omega
        have c1 : ∀ W, Calls Tryd.prog 58 #[.int .i64 s.size, .int .i64 1, .int .i64 120] W fun e w' => e = .returned (.bool true) ∧ W = w' := fun W => by rw [← hin]; exact in_any _ _ _ _
        have C1 := Lib.hid c1; clear c1
        have h0 : 0 < s.size := by omega
        go_wp2_with (go_at_call 58; refine (C1.out _).mono ?_; rintro e w' ⟨rfl, rfl⟩)
        all_goals first
          | (have h48 : byt s 0 = 48 := by omega
             have hv : r = ((s.size : Int) == 1) := by
               rw [Hr.out, isNum, Bool.eq_iff_iff, decide_eq_true_iff, beq_iff_eq]
               exact ⟨fun ⟨_, _, h⟩ => by omega, fun h => ⟨hsz, Hk.out, Or.inr (by omega)⟩⟩
             go_ret
             exact ⟨by rw [hv]; rfl, n0, Hwr.out⟩)
          | (have h48 : byt s 0 ≠ 48 := by omega
             have hv : r = true := by
               rw [Hr.out, isNum, decide_eq_true_iff]
               exact ⟨hsz, Hk.out, Or.inl h48⟩
             go_ret
             exact ⟨by rw [hv]; rfl, n0, Hwr.out⟩)
      · have hf : isNum s = false := by rw [isNum, decide_eq_false_iff_not]; rintro ⟨h, -, -⟩; exact hsz h
        have hrf : r = false := by rw [Hr.out]; exact hf
        subst hrf
        have hin : decide ((1 : Int) ≤ (s.size : Int) ∧ (s.size : Int) ≤ 120) = false := by rw [decide_eq_false_iff_not]; omega
        have c1 : ∀ W, Calls Tryd.prog 58 #[.int .i64 s.size, .int .i64 1, .int .i64 120] W fun e w' => e = .returned (.bool false) ∧ W = w' := fun W => by rw [← hin]; exact in_any _ _ _ _
        have C1 := Lib.hid c1; clear c1
        go_wp2_with (go_at_call 58; refine (C1.out _).mono ?_; rintro e w' ⟨rfl, rfl⟩)
        all_goals first
          | (go_ret; exact ⟨rfl, n0, Hwr.out⟩)
          | (exfalso; omega)

end Go.Proofs.YtdjldhkmcmbiiaaDoor
/-
  The program's test whether a text is a numeral.
-/
namespace Go.Proofs.YtdjldhkmcmbiiaaDoor
open Go.RowKit Num

theorem list_size (s : ByteArray) : s.toList.length = s.size := by
  rw [Lib.toList_data]; rfl

theorem list_empty (s : ByteArray) : s.toList.isEmpty = decide (s.size = 0) := by
  rw [← list_size]; cases s.toList <;> simp

theorem list_zero (s : ByteArray) : s.toList = [48] ↔ s.size = 1 ∧ byt s 0 = 48 := by
  rw [Lib.toList_data]
  have hs : s.size = s.data.toList.length := rfl
  constructor
  · intro h
    have h1 : s.size = 1 := by rw [hs, h]; rfl
    refine ⟨h1, ?_⟩
    rw [← byt_eq s 0 (by omega)]
    have : s.data = #[48] := by
      apply Array.ext'
      exact h
    show (s.data[0]'_).toNat = 48
    simp [this]
  · rintro ⟨h1, h2⟩
    rw [hs] at h1
    match hd : s.data.toList, h1 with
    | [a], _ =>
      have : s.data = #[a] := by
        apply Array.ext'
        exact hd
      simp [byt, this] at h2
      have : a = 48 := UInt8.toNat_inj.1 (by simpa using h2)
      rw [this]

set_option maxHeartbeats 800000 in
theorem numeralW_any (s : ByteArray) (w : World) (hs : s.size ≤ 9223372036854775807) :
    Calls Tryd.prog 116 #[.string s] w fun e w' => e = .returned (.bool (isNum s)) ∧ ∃ nq, w' = w.drewN nq := by
  obtain ⟨r, hr⟩ : ∃ r, r = isNum s := ⟨_, rfl⟩
  rw [← hr]
  have Hr := Lib.hid hr; clear hr
  have he := list_empty s
  by_cases hsz : 1 ≤ s.size ∧ s.size ≤ 120
  · have hb := byt_eq s 0 (by omega)
    have h0 : 0 < s.size := by omega
    have he' : s.toList.isEmpty = false := by rw [he, decide_eq_false_iff_not]; omega
    have hne : ¬ s.toList = [] := by intro h; rw [h] at he'; cases he'
    clear he
    have h120 : decide ((120 : Int) < (s.size : Int)) = false := by rw [decide_eq_false_iff_not]; omega
    by_cases hz : byt s 0 = 48
    · have hz1 : ((byt s 0 : Int) == 48) = true := by rw [beq_iff_eq]; omega
      by_cases h1 : s.size = 1
      · have hl : (s.toList == [48]) = true := by rw [beq_iff_eq]; exact (list_zero s).2 ⟨h1, hz⟩
        have Hz := Lib.hid hz; clear hz
        go_enter Tryd.func116, Tryd.ntmps116
        go_wp2_with fail
        go_loopw [22] (fun i wr => ∃ k nq : Nat, (k ≤ s.size ∧ ∀ j, j < k → 48 ≤ byt s j ∧ byt s j ≤ 57) ∧ i = .int .i64 (k : Int) ∧ wr = w.drewN nq) (fun i _ => ((s.size : Int) - intOf i).toNat)
        case atStart => exact ⟨0, 0, ⟨by omega, fun j h => by omega⟩, rfl, rfl⟩
        case round =>
          obtain ⟨k, n0, hk', rfl, hwr⟩ := hrel
          have hk := hk'.1
          have Hk := Lib.hid hk'.2; clear hk'
          have Hwr := Lib.hid hwr; clear hwr
          by_cases hk0 : k < s.size
          · have hbk := byt_eq s k hk0
            by_cases hdig : 48 ≤ byt s k ∧ byt s k ≤ 57
            · have hd1 : decide ((s[k].toNat : Int) < 48) = false := by rw [decide_eq_false_iff_not]; omega
              have hd2 : decide ((57 : Int) < (s[k].toNat : Int)) = false := by rw [decide_eq_false_iff_not]; omega
              have Hdig := Lib.hid hdig; clear hdig
              have Hbk := Lib.hid hbk; clear hbk
              go_wp2_with fail
              all_goals first
                | (refine ⟨⟨k + 1, n0, ⟨by omega, fun j hj => ?_⟩, by simp, Hwr.out⟩, by simp [intOf]; omega⟩
                   by_cases hjk : j < k
                   · exact Hk.out j hjk
                   · obtain rfl : j = k := by omega
                     exact Hdig.out)
                | (exfalso; have := Hdig.out; have := Hbk.out; omega)
            · have hrf : r = false := by
                rw [Hr.out, isNum, decide_eq_false_iff_not]
                rintro ⟨-, h, -⟩
                exact hdig (h k hk0)
              subst hrf
              go_wp2_with fail
              all_goals first
                | (go_ret; exact ⟨rfl, n0, Hwr.out⟩)
                | (exfalso; omega)
          · obtain rfl : k = s.size := by omega
            have hv : r = true := by
              rw [Hr.out, isNum, decide_eq_true_iff]
              exact ⟨hsz, Hk.out, by omega⟩
            subst hv
            go_wp2_with fail
            go_ret
            exact ⟨rfl, n0, Hwr.out⟩
      · have hl : (s.toList == [48]) = false := by rw [beq_eq_false_iff_ne]; exact fun h => h1 ((list_zero s).1 h).1
        have hrf : r = false := by
          rw [Hr.out, isNum, decide_eq_false_iff_not]
          rintro ⟨-, -, h⟩
          omega
        subst hrf
        go_enter Tryd.func116, Tryd.ntmps116
        go_wp2_with fail
        go_ret
        exact ⟨rfl, 0, rfl⟩
    · have hz1 : ((byt s 0 : Int) == 48) = false := by rw [beq_eq_false_iff_ne]; omega
      go_enter Tryd.func116, Tryd.ntmps116
      go_wp2_with fail
      go_loopw [22] (fun i wr => ∃ k nq : Nat, (k ≤ s.size ∧ ∀ j, j < k → 48 ≤ byt s j ∧ byt s j ≤ 57) ∧ i = .int .i64 (k : Int) ∧ wr = w.drewN nq) (fun i _ => ((s.size : Int) - intOf i).toNat)
      case atStart => exact ⟨0, 0, ⟨by omega, fun j h => by omega⟩, rfl, rfl⟩
      case round =>
        obtain ⟨k, n0, hk', rfl, hwr⟩ := hrel
        have hk := hk'.1
        have Hk := Lib.hid hk'.2; clear hk'
        have Hwr := Lib.hid hwr; clear hwr
        by_cases hk0 : k < s.size
        · have hbk := byt_eq s k hk0
          by_cases hdig : 48 ≤ byt s k ∧ byt s k ≤ 57
          · have hd1 : decide ((s[k].toNat : Int) < 48) = false := by rw [decide_eq_false_iff_not]; omega
            have hd2 : decide ((57 : Int) < (s[k].toNat : Int)) = false := by rw [decide_eq_false_iff_not]; omega
            have Hdig := Lib.hid hdig; clear hdig
            have Hbk := Lib.hid hbk; clear hbk
            go_wp2_with fail
            all_goals first
              | (refine ⟨⟨k + 1, n0, ⟨by omega, fun j hj => ?_⟩, by simp, Hwr.out⟩, by simp [intOf]; omega⟩
                 by_cases hjk : j < k
                 · exact Hk.out j hjk
                 · obtain rfl : j = k := by omega
                   exact Hdig.out)
              | (exfalso; have := Hdig.out; have := Hbk.out; omega)
          · have hrf : r = false := by
              rw [Hr.out, isNum, decide_eq_false_iff_not]
              rintro ⟨-, h, -⟩
              exact hdig (h k hk0)
            subst hrf
            go_wp2_with fail
            all_goals first
              | (go_ret; exact ⟨rfl, n0, Hwr.out⟩)
              | (exfalso; omega)
        · obtain rfl : k = s.size := by omega
          have hv : r = true := by
            rw [Hr.out, isNum, decide_eq_true_iff]
            exact ⟨hsz, Hk.out, by omega⟩
          subst hv
          go_wp2_with fail
          go_ret
          exact ⟨rfl, n0, Hwr.out⟩
  · have hrf : r = false := by
      rw [Hr.out, isNum, decide_eq_false_iff_not]
      rintro ⟨h, -, -⟩
      exact hsz h
    subst hrf
    by_cases h0 : s.size = 0
    · have he' : s.toList.isEmpty = true := by rw [he, decide_eq_true_iff]; exact h0
      clear he
      go_enter Tryd.func116, Tryd.ntmps116
      go_wp2_with fail
      go_ret
      exact ⟨rfl, 0, rfl⟩
    · have he' : s.toList.isEmpty = false := by rw [he, decide_eq_false_iff_not]; exact h0
      have hne : ¬ s.toList = [] := by intro h; rw [h] at he'; cases he'
      clear he
      have h120 : decide ((120 : Int) < (s.size : Int)) = true := by rw [decide_eq_true_iff]; omega
      go_enter Tryd.func116, Tryd.ntmps116
      go_wp2_with fail
      go_ret
      exact ⟨rfl, 0, rfl⟩

end Go.Proofs.YtdjldhkmcmbiiaaDoor
