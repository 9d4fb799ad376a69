/-
  Names: the program's and the model's test whether a text is a valid name.
-/
import Derived.Test.YtoaiejodbmkbjaaGreatDoorHold
import Derived.Lib.IndexBytes
namespace Go.Proofs.YtoaiejodbmkbjaaGreatDoor
open Go.RowKit Num

/-- Byte j of the text s. -/
def bt (s : ByteArray) (j : Nat) : Nat := (s.data.getD j 0).toNat

theorem bt_eq (s : ByteArray) (j : Nat) (h : j < s.size) : s[j].toNat = bt s j := by
  simp [bt, Array.getD, h]
  rfl

/-- The words that no name may be. -/
def kws : List (List UInt8) := [[115, 107, 105, 112], [102, 108, 105, 112], [111, 98, 115, 101, 114, 118, 101], [105, 102], [101, 108, 115, 101], [114, 101, 112, 101, 97, 116], [119, 104, 105, 108, 101], [109, 97, 120],
  [99, 97, 108, 108], [118, 97, 114], [112, 114, 111, 99], [102, 117, 101, 108], [97, 110, 100], [111, 114], [110, 111, 116], [99, 104, 111, 111, 115, 101]]

def isKw (s : ByteArray) : Bool := kws.contains s.toList

theorem isDig_any (c : Nat) (w : World) : Calls Tryz.prog 89 #[.int .u8 (c : Int)] w fun e w' => e = .returned (.bool (decide (48 ≤ c ∧ c ≤ 57))) ∧ w = w' := by
  by_cases h1 : 48 ≤ c
  · have e : decide (48 ≤ c ∧ c ≤ 57) = decide ((c : Int) ≤ 57) := by simp only [h1, true_and]; exact decide_eq_decide.2 (by omega)
    rw [e]
    go_enter Tryz.func89, Tryz.ntmps89
    go_wp2_with fail
    all_goals first
      | (go_ret; exact ⟨rfl, rfl⟩)
      | (exfalso; omega)
  · have e : decide (48 ≤ c ∧ c ≤ 57) = false := by simp [h1]
    rw [e]
    go_enter Tryz.func89, Tryz.ntmps89
    go_wp2_with fail
    all_goals first
      | (go_ret; exact ⟨rfl, rfl⟩)
      | (exfalso; omega)

theorem isLet_any (c : Nat) (w : World) : Calls Tryz.prog 88 #[.int .u8 (c : Int)] w fun e w' => e = .returned (.bool (decide (97 ≤ c ∧ c ≤ 122))) ∧ w = w' := by
  by_cases h1 : 97 ≤ c
  · have e : decide (97 ≤ c ∧ c ≤ 122) = decide ((c : Int) ≤ 122) := by simp only [h1, true_and]; exact decide_eq_decide.2 (by omega)
    rw [e]
    go_enter Tryz.func88, Tryz.ntmps88
    go_wp2_with fail
    all_goals first
      | (go_ret; exact ⟨rfl, rfl⟩)
      | (exfalso; omega)
  · have e : decide (97 ≤ c ∧ c ≤ 122) = false := by simp [h1]
    rw [e]
    go_enter Tryz.func88, Tryz.ntmps88
    go_wp2_with fail
    all_goals first
      | (go_ret; exact ⟨rfl, rfl⟩)
      | (exfalso; omega)

set_option maxRecDepth 100000 in
set_option maxHeartbeats 1600000 in
theorem isKw_any (s : ByteArray) (w : World) : Calls Tryz.prog 90 #[.string s] w fun e w' => e = .returned (.bool (isKw s)) ∧ w = w' := by
  obtain ⟨r, hr⟩ : ∃ r, r = isKw s := ⟨_, rfl⟩
  rw [← hr]
  have Hr := Lib.hid hr; clear hr
  go_enter Tryz.func90, Tryz.ntmps90
  go_wp2_with fail
  all_goals first
    | (exfalso; simp_all; done)
    | (have hv : r = true := by (rw [Hr.out]; simp_all [isKw, kws])
       subst hv
       go_ret
       exact ⟨rfl, rfl⟩)
    | (have hv : r = false := by (rw [Hr.out]; simp_all [isKw, kws])
       subst hv
       go_ret
       exact ⟨rfl, rfl⟩)

/-- n texts stand in a row from the address on. -/
def StrsAt (w : World) (A : Option Addr) (n : Nat) (S : Nat → ByteArray) : Prop :=
  0 < n → ∃ b off, A = some ⟨b, off, none⟩ ∧ b < w.heap.size ∧ ∀ j, j < n → w.cell? ⟨b, off + j, none⟩ = some (.string (S j))

set_option maxRecDepth 100000 in
set_option maxHeartbeats 1600000 in
theorem hasS_any (A0 : Option Addr) (n cap : Nat) (S : Nat → ByteArray) (s : ByteArray) (w : World) (hn : n ≤ 9223372036854775807) (hA : StrsAt w A0 n S) :
    Calls Tryz.prog 77 #[.slice A0 n cap, .string s] w fun e w' => (∃ r, e = .returned (.bool r) ∧ (r = true ↔ ∃ j, j < n ∧ (S j).toList = s.toList)) ∧ w = w' := by
  have HA := Lib.hid hA; clear hA
  go_enter Tryz.func77, Tryz.ntmps77
  go_wp2_with fail
  go_loopw [9] (fun i wr => ∃ k : Nat, (k ≤ n ∧ ∀ j, j < k → (S j).toList ≠ s.toList) ∧ i = .int .i64 (k : Int) ∧ wr = w) (fun i _ => ((n : Int) - intOf i).toNat)
  case atStart => exact ⟨0, ⟨by omega, fun j h => by omega⟩, rfl, rfl⟩
  case round =>
    obtain ⟨k, hk', rfl, rfl⟩ := hrel
    have hk := hk'.1
    have Hk := Lib.hid hk'.2; clear hk'
    by_cases hk0 : k < n
    · obtain ⟨b, off, rfl, hb, hc⟩ := HA.out (by omega)
      have hck := hc k hk0
      clear hc
      by_cases he : ((S k).toList == s.toList) = true
      · go_wp2_with fail
        go_ret
        exact ⟨⟨true, rfl, by simp; exact ⟨k, hk0, by simpa using he⟩⟩, rfl⟩
      · have he' : ((S k).toList == s.toList) = false := by simpa using he
        go_wp2_with fail
        refine ⟨⟨k + 1, ⟨by omega, fun j hj => ?_⟩, by simp, by simp⟩, by simp [intOf]; omega⟩
        by_cases hjk : j < k
        · exact Hk.out j hjk
        · obtain rfl : j = k := by omega
          simpa using he'
    · obtain rfl : k = n := by omega
      go_wp2_with fail
      go_ret
      exact ⟨⟨false, rfl, by simp; exact fun j hj => Hk.out j hj⟩, rfl⟩

def kw16 (j : Nat) : ByteArray := ⟨(kws.getD j []).toArray⟩

set_option maxRecDepth 100000 in
set_option maxHeartbeats 1600000 in
theorem keys_any (w : World) : Calls Tryz.prog 78 #[] w fun e w' => (∃ A0, e = .returned (.slice A0 16 16) ∧ StrsAt w' A0 16 kw16) ∧ Below w.heap.size w w' := by
  go_enter Tryz.func78, Tryz.ntmps78
  go_wp2_with fail
  go_ret
  refine ⟨⟨_, rfl, fun _ => ⟨_, _, rfl, ?_, ?_⟩⟩, (Below.refl _ w).alloc (Nat.le_refl _) _⟩
  · simp
  · intro j hj
    rw [Box.cell (Box.new w _ _)]
    have h16 : j = 0 ∨ j = 1 ∨ j = 2 ∨ j = 3 ∨ j = 4 ∨ j = 5 ∨ j = 6 ∨ j = 7 ∨ j = 8 ∨ j = 9 ∨ j = 10 ∨ j = 11 ∨ j = 12 ∨ j = 13 ∨ j = 14 ∨ j = 15 := by omega
    rcases h16 with rfl | rfl | rfl | rfl | rfl | rfl | rfl | rfl | rfl | rfl | rfl | rfl | rfl | rfl | rfl | rfl <;> rfl

/-- A valid name. -/
def nameOk (s : ByteArray) : Bool := decide ((1 ≤ s.size ∧ s.size ≤ 8) ∧ ∀ j, j < s.size → (97 ≤ bt s j ∧ bt s j ≤ 122) ∨ (0 < j ∧ 48 ≤ bt s j ∧ bt s j ≤ 57)) && !isKw s

theorem bt_lt (s : ByteArray) (j : Nat) : bt s j < 256 := UInt8.toNat_lt _

theorem kw_iff (s : ByteArray) : isKw s = true ↔ ∃ j, j < 16 ∧ (kw16 j).toList = s.toList := by
  have e : ∀ j, (kw16 j).toList = kws.getD j [] := fun j => by rw [kw16, Lib.toList_data]
  simp only [e]
  rw [isKw, List.contains_iff_mem, List.mem_iff_getElem]
  constructor
  · rintro ⟨j, hj, h⟩
    refine ⟨j, hj, ?_⟩
    rw [← h, List.getD_eq_getElem?_getD, List.getElem?_eq_getElem hj]; rfl
  · rintro ⟨j, hj, h⟩
    refine ⟨j, hj, ?_⟩
    rw [← h, List.getD_eq_getElem?_getD, List.getElem?_eq_getElem hj]; rfl

theorem in3_any (n lo hi : Int) (w : World) :
    Calls Tryz.prog 15 #[.int .i64 n, .int .i64 lo, .int .i64 hi] w fun e w' => e = .returned (.bool (decide (lo ≤ n ∧ n ≤ hi))) ∧ w = w' := by
  by_cases h1 : lo ≤ n
  · have e : decide (lo ≤ n ∧ n ≤ hi) = decide (n ≤ hi) := by simp [h1]
    rw [e]
    go_enter Tryz.func15, Tryz.ntmps15
    go_wp2_with fail
    all_goals first
      | (go_ret; exact ⟨rfl, rfl⟩)
      | (exfalso; omega)
  · have e : decide (lo ≤ n ∧ n ≤ hi) = false := by simp [h1]
    rw [e]
    go_enter Tryz.func15, Tryz.ntmps15
    go_wp2_with fail
    all_goals first
      | (go_ret; exact ⟨rfl, rfl⟩)
      | (exfalso; omega)

theorem nameOk_false_at {s : ByteArray} {k : Nat} (hk : k < s.size) (h : ¬ ((97 ≤ bt s k ∧ bt s k ≤ 122) ∨ (0 < k ∧ 48 ≤ bt s k ∧ bt s k ≤ 57))) : nameOk s = false := by
  rw [nameOk, Bool.and_eq_false_iff]
  left
  rw [decide_eq_false_iff_not]
  exact fun hh => h (hh.2 k hk)
theorem nameOk_false_len {s : ByteArray} (h : ¬ (1 ≤ s.size ∧ s.size ≤ 8)) : nameOk s = false := by
  rw [nameOk, Bool.and_eq_false_iff]
  left
  rw [decide_eq_false_iff_not]
  exact fun hh => h hh.1
theorem nameOk_kw {s : ByteArray} (h : 1 ≤ s.size ∧ s.size ≤ 8) (hl : ∀ j, j < s.size → (97 ≤ bt s j ∧ bt s j ≤ 122) ∨ (0 < j ∧ 48 ≤ bt s j ∧ bt s j ≤ 57)) : nameOk s = !isKw s := by
  rw [nameOk, decide_eq_true (And.intro h hl), Bool.true_and]

set_option maxRecDepth 100000 in
set_option maxHeartbeats 3200000 in
theorem name_any (s : ByteArray) (w : World) (hs : s.size ≤ 9223372036854775807) :
    Calls Tryz.prog 58 #[.string s] w fun e w' => e = .returned (.bool (nameOk s)) ∧ Below w.heap.size w w' := by
  obtain ⟨r, hr⟩ : ∃ r, r = nameOk s := ⟨_, rfl⟩
  rw [← hr]
  have Hr := Lib.hid hr; clear hr
  go_enter Tryz.func58, Tryz.ntmps58
  go_wp2_with fail
  go_loopw [3] (fun i wr => ∃ k nq : Nat, (k ≤ s.size ∧ ∀ j, j < k → (97 ≤ bt s j ∧ bt s j ≤ 122) ∨ (0 < j ∧ 48 ≤ bt s j ∧ bt s j ≤ 57)) ∧ i = .int .i64 (k : Int) ∧ wr = w.drewN nq) (fun i _ => ((s.size : Int) - intOf i).toNat)
  case atStart => exact ⟨0, 0, ⟨by omega, fun j h => by omega⟩, rfl, rfl⟩
  case round =>
    obtain ⟨k, n0, hk', rfl, hwr⟩ := hrel
    have hk := hk'.1
    have Hk := Lib.hid hk'.2; clear hk'
    have Hwr := Lib.hid hwr; clear hwr
    by_cases hk0 : k < s.size
    · have hb := bt_eq s k hk0
      by_cases hlet : 97 ≤ bt s k ∧ bt s k ≤ 122
      · have hd1 : decide ((s[k].toNat : Int) < 97) = false := by rw [decide_eq_false_iff_not]; omega
        have hd2 : decide ((122 : Int) < (s[k].toNat : Int)) = false := by rw [decide_eq_false_iff_not]; omega
        have Hlet := Lib.hid hlet; clear hlet
        have Hb := Lib.hid hb; clear hb
        go_wp2_with fail
        all_goals first
          | (refine ⟨⟨k + 1, n0, ⟨by omega, fun j hj => ?_⟩, by simp, Hwr.out⟩, by simp [intOf]; omega⟩
             by_cases hjk : j < k
             · exact Hk.out j hjk
             · obtain rfl : j = k := by omega
               exact Or.inl Hlet.out)
          | (exfalso; have := Hlet.out; have := Hb.out; omega)
      · have hbad : decide ((s[k].toNat : Int) < 97) = true ∨ (decide ((s[k].toNat : Int) < 97) = false ∧ decide ((122 : Int) < (s[k].toNat : Int)) = true) := by
          by_cases h97 : bt s k < 97
          · left; rw [decide_eq_true_iff]; omega
          · right; rw [decide_eq_false_iff_not, decide_eq_true_iff]; omega
        by_cases hdig : 0 < k ∧ 48 ≤ bt s k ∧ bt s k ≤ 57
        · have hz : ((k : Int) == 0) = false := by simp; omega
          have hd3 : decide ((s[k].toNat : Int) < 48) = false := by rw [decide_eq_false_iff_not]; omega
          have hd4 : decide ((57 : Int) < (s[k].toNat : Int)) = false := by rw [decide_eq_false_iff_not]; omega
          have Hdig := Lib.hid hdig; clear hdig
          have Hb := Lib.hid hb; clear hb hlet
          rcases hbad with hb1 | ⟨hb1, hb2⟩
          all_goals go_wp2_with fail
          all_goals first
            | (refine ⟨⟨k + 1, n0, ⟨by omega, fun j hj => ?_⟩, by simp, Hwr.out⟩, by simp [intOf]; omega⟩
               by_cases hjk : j < k
               · exact Hk.out j hjk
               · obtain rfl : j = k := by omega
                 exact Or.inr Hdig.out)
            | (exfalso; have := Hdig.out; have := Hb.out; omega)
        · have hrf : r = false := by rw [Hr.out]; exact nameOk_false_at hk0 (fun h => h.elim hlet hdig)
          subst hrf
          have hd5 : ((k : Int) == 0) = true ∨ (((k : Int) == 0) = false ∧ decide ((s[k].toNat : Int) < 48) = true) ∨ (((k : Int) == 0) = false ∧ decide ((s[k].toNat : Int) < 48) = false ∧ decide ((57 : Int) < (s[k].toNat : Int)) = true) := by
            by_cases h0 : k = 0
            · left; simp; omega
            · right
              by_cases h48 : bt s k < 48
              · left; refine ⟨by simp; omega, ?_⟩; rw [decide_eq_true_iff]; omega
              · right; refine ⟨by simp; omega, ?_, ?_⟩
                · rw [decide_eq_false_iff_not]; omega
                · rw [decide_eq_true_iff]; omega
          clear hlet hdig hb
          rcases hbad with hb1 | ⟨hb1, hb2⟩ <;> rcases hd5 with hc1 | ⟨hc1, hc2⟩ | ⟨hc1, hc2, hc3⟩
          all_goals go_wp2_with fail
          all_goals (go_ret; exact ⟨rfl, by (rw [Hwr.out]; exact below_drewN n0 (Below.refl _ w))⟩)
    · obtain rfl : k = s.size := by omega
      have hB0 : Below w.heap.size w wr := by rw [Hwr.out]; exact below_drewN n0 (Below.refl _ w)
      clear Hwr
      by_cases hsz : 1 ≤ s.size ∧ s.size ≤ 8
      · have hin : decide ((1 : Int) ≤ (s.size : Int) ∧ (s.size : Int) ≤ 8) = true := by rw [decide_eq_true_iff]; omega
        have c1 : ∀ W, Calls Tryz.prog 15 #[.int .i64 s.size, .int .i64 1, .int .i64 8] W fun e w' => e = .returned (.bool true) ∧ W = w' := fun W => by rw [← hin]; exact in3_any _ _ _ _
        have C1 := Lib.hid c1; clear c1
        obtain ⟨kk, hkk⟩ : ∃ kk, kk = isKw s := ⟨_, rfl⟩
        have hv : r = !kk := by rw [Hr.out, hkk]; exact nameOk_kw hsz Hk.out
        clear Hr
        subst hv
        have Hkk := Lib.hid hkk; clear hkk
        go_wp2_with (first
          | (go_at_call 15; refine (C1.out _).mono ?_; rintro e w' ⟨rfl, rfl⟩)
          | (go_at_call 78; refine (keys_any _).mono ?_; rintro e w1 ⟨⟨A0, rfl, hst⟩, hb1⟩)
          | (go_at_call 77; refine (hasS_any _ 16 16 kw16 s _ (by omega) hst).mono ?_; rintro e w2 ⟨⟨r', rfl, hr'⟩, rfl⟩))
        have e : r' = kk := by rw [Bool.eq_iff_iff, hr', Hkk.out]; exact (kw_iff s).symm
        subst e
        go_ret
        exact ⟨rfl, hB0.trans (hb1.mono hB0.size)⟩
      · have hrf : r = false := by rw [Hr.out]; exact nameOk_false_len hsz
        subst hrf
        have hin : decide ((1 : Int) ≤ (s.size : Int) ∧ (s.size : Int) ≤ 8) = false := by rw [decide_eq_false_iff_not]; omega
        have c1 : ∀ W, Calls Tryz.prog 15 #[.int .i64 s.size, .int .i64 1, .int .i64 8] W fun e w' => e = .returned (.bool false) ∧ W = w' := fun W => by rw [← hin]; exact in3_any _ _ _ _
        have C1 := Lib.hid c1; clear c1
        go_wp2_with (go_at_call 15; refine (C1.out _).mono ?_; rintro e w' ⟨rfl, rfl⟩)
        all_goals first
          | (go_ret; exact ⟨rfl, hB0⟩)
          | (exfalso; omega)

set_option maxRecDepth 100000 in
set_option maxHeartbeats 3200000 in
theorem implName_any (s : ByteArray) (w : World) (hs : s.size ≤ 9223372036854775807) :
    Calls Tryz.prog 80 #[.string s] w fun e w' => e = .returned (.bool (nameOk s)) ∧ Below w.heap.size w w' := by
  obtain ⟨r, hr⟩ : ∃ r, r = nameOk s := ⟨_, rfl⟩
  rw [← hr]
  have Hr := Lib.hid hr; clear hr
  by_cases hsz : 1 ≤ s.size ∧ s.size ≤ 8
  · have hb0 := bt_eq s 0 (by omega)
    have h0 : 0 < s.size := by omega
    have hem : s.toList.isEmpty = false := by
      have : s.toList.length = s.size := by rw [Lib.toList_data]; rfl
      cases h : s.toList with
      | nil => rw [h] at this; simp at this; omega
      | cons a l => rfl
    have h8 : decide ((8 : Int) < (s.size : Int)) = false := by rw [decide_eq_false_iff_not]; omega
    by_cases hl0 : 97 ≤ bt s 0 ∧ bt s 0 ≤ 122
    · have c0 : ∀ W, Calls Tryz.prog 88 #[.int .u8 (s[0].toNat : Int)] W fun e w' => e = .returned (.bool true) ∧ W = w' := fun W => by
        have := isLet_any s[0].toNat W
        rwa [hb0, decide_eq_true hl0, ← hb0] at this
      have C0 := Lib.hid c0; clear c0
      have Hl0 := Lib.hid hl0; clear hl0
      have Hb0 := Lib.hid hb0; clear hb0
      go_enter Tryz.func80, Tryz.ntmps80
      go_wp2_with (go_at_call 88; refine (C0.out _).mono ?_; rintro e w' ⟨rfl, rfl⟩)
      go_loopw [19] (fun i wr => ∃ k nq : Nat, (k ≤ s.size ∧ ∀ j, j < k → (97 ≤ bt s j ∧ bt s j ≤ 122) ∨ (0 < j ∧ 48 ≤ bt s j ∧ bt s j ≤ 57)) ∧ i = .int .i64 (k : Int) ∧ wr = w.drewN nq) (fun i _ => ((s.size : Int) - intOf i).toNat)
      case atStart => first | exact ⟨0, 0, ⟨by omega, fun j h => by omega⟩, rfl, rfl⟩ | exact ⟨0, 1, ⟨by omega, fun j h => by omega⟩, rfl, rfl⟩
      case round =>
        obtain ⟨k, n0, hk', rfl, hwr⟩ := hrel
        have hk := hk'.1
        have Hk := Lib.hid hk'.2; clear hk'
        have hB0 : Below w.heap.size w wr := by rw [hwr]; exact below_drewN n0 (Below.refl _ w)
        have Hwr := Lib.hid hwr; clear hwr
        by_cases hk0 : k < s.size
        · have hb := bt_eq s k hk0
          obtain ⟨LB, hLB⟩ : ∃ LB, LB = decide (97 ≤ bt s k ∧ bt s k ≤ 122) := ⟨_, rfl⟩
          obtain ⟨DB, hDB⟩ : ∃ DB, DB = decide (48 ≤ bt s k ∧ bt s k ≤ 57) := ⟨_, rfl⟩
          have c1 : ∀ W, Calls Tryz.prog 88 #[.int .u8 (s[k].toNat : Int)] W fun e w' => e = .returned (.bool LB) ∧ W = w' := fun W => by
            have := isLet_any s[k].toNat W
            rwa [hb, ← hLB, ← hb] at this
          have c2 : ∀ W, Calls Tryz.prog 89 #[.int .u8 (s[k].toNat : Int)] W fun e w' => e = .returned (.bool DB) ∧ W = w' := fun W => by
            have := isDig_any s[k].toNat W
            rwa [hb, ← hDB, ← hb] at this
          have C1 := Lib.hid c1; clear c1
          have C2 := Lib.hid c2; clear c2
          have HLB := Lib.hid hLB; clear hLB
          have HDB := Lib.hid hDB; clear hDB
          clear hb
          by_cases hgood : LB = true ∨ (LB = false ∧ DB = true)
          · have step : (97 ≤ bt s k ∧ bt s k ≤ 122) ∨ (0 < k ∧ 48 ≤ bt s k ∧ bt s k ≤ 57) := by
              have h1 := HLB.out; have h2 := HDB.out
              rcases hgood with h | ⟨ha, hb⟩
              · left; rw [h] at h1; exact of_decide_eq_true h1.symm
              · rw [hb] at h2
                have h3 := of_decide_eq_true h2.symm
                rcases Nat.eq_zero_or_pos k with rfl | hk1
                · left; exact Hl0.out
                · exact Or.inr ⟨hk1, h3⟩
            have Step := Lib.hid step; clear step
            rcases hgood with rfl | ⟨rfl, rfl⟩
            all_goals go_wp2_with (first
              | (go_at_call 88; refine (C1.out _).mono ?_; rintro e w' ⟨rfl, rfl⟩)
              | (go_at_call 89; refine (C2.out _).mono ?_; rintro e w' ⟨rfl, rfl⟩))
            all_goals (
              refine ⟨⟨k + 1, n0, ⟨by omega, fun j hj => ?_⟩, by simp, Hwr.out⟩, by simp [intOf]; omega⟩
              by_cases hjk : j < k
              · exact Hk.out j hjk
              · obtain rfl : j = k := by omega
                exact Step.out)
          · obtain ⟨h1, h2⟩ : LB = false ∧ DB = false := by cases LB <;> cases DB <;> simp_all
            have hrf : r = false := by
              rw [Hr.out]
              have e1 := HLB.out; have e2 := HDB.out
              rw [h1] at e1; rw [h2] at e2
              exact nameOk_false_at hk0 (fun h => h.elim (fun h => of_decide_eq_false e1.symm h) (fun h => of_decide_eq_false e2.symm h.2))
            subst hrf h1 h2
            clear hgood
            go_wp2_with (first
              | (go_at_call 88; refine (C1.out _).mono ?_; rintro e w' ⟨rfl, rfl⟩)
              | (go_at_call 89; refine (C2.out _).mono ?_; rintro e w' ⟨rfl, rfl⟩))
            go_ret
            exact ⟨rfl, hB0⟩
        · obtain rfl : k = s.size := by omega
          have hv : r = !isKw s := by rw [Hr.out]; exact nameOk_kw hsz Hk.out
          clear Hr
          subst hv
          go_wp2_with (go_at_call 90; refine (isKw_any s _).mono ?_; rintro e w' ⟨rfl, rfl⟩)
          go_ret
          exact ⟨rfl, hB0⟩
    · have hrf : r = false := by
        rw [Hr.out]
        exact nameOk_false_at h0 (fun h => h.elim hl0 (fun h => by omega))
      subst hrf
      have c0 : ∀ W, Calls Tryz.prog 88 #[.int .u8 (s[0].toNat : Int)] W fun e w' => e = .returned (.bool false) ∧ W = w' := fun W => by
        have := isLet_any s[0].toNat W
        rwa [hb0, decide_eq_false hl0, ← hb0] at this
      have C0 := Lib.hid c0; clear c0
      clear hl0 hb0
      go_enter Tryz.func80, Tryz.ntmps80
      go_wp2_with (go_at_call 88; refine (C0.out _).mono ?_; rintro e w' ⟨rfl, rfl⟩)
      go_ret
      exact ⟨rfl, Below.refl _ w⟩
  · have hrf : r = false := by rw [Hr.out]; exact nameOk_false_len hsz
    subst hrf
    have hor : s.toList.isEmpty = true ∨ (s.toList.isEmpty = false ∧ decide ((8 : Int) < (s.size : Int)) = true) := by
      have hlen : s.toList.length = s.size := by rw [Lib.toList_data]; rfl
      cases h : s.toList with
      | nil => left; rfl
      | cons a l => right; refine ⟨rfl, ?_⟩; rw [decide_eq_true_iff]; rw [h] at hlen; simp at hlen; omega
    clear hsz
    rcases hor with h1 | ⟨h1, h2⟩
    all_goals go_enter Tryz.func80, Tryz.ntmps80
    all_goals go_wp2_with fail
    all_goals (go_ret; exact ⟨rfl, Below.refl _ w⟩)

end Go.Proofs.YtoaiejodbmkbjaaGreatDoor
