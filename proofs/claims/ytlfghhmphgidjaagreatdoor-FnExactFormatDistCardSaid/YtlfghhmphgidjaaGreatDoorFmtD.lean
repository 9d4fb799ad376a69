/-
  FormatDist: the texts, and the model.
-/
import Derived.Test.YtlfghhmphgidjaaGreatDoorFmtR
import Derived.Test.YtlfghhmphgidjaaGreatDoorDistS
import Derived.Test.YtlfghhmphgidjaaGreatDoorShelfI
import Derived.Lib.ItoaLen
import Derived.Deep.RegionHeld3
namespace Go.Proofs.YtlfghhmphgidjaaGreatDoor
open Go.RowKit Num

theorem decL_dec (u : Nat) : Lib.decDigits u = decL u := by
  induction u using Nat.strongRecOn with
  | ind u ih =>
    by_cases h : u < 10
    · rw [Lib.decDigits_one h, decL_small u h]
    · rw [Lib.decDigits, dif_neg h, ih (u / 10) (by omega), decL_step u (by omega)]

/-- The text of one point. -/
def ptL (p : Int × Bool × ByteArray × ByteArray) : List UInt8 := Lib.itoa p.1 ++ 58 :: fmtL p.2.1 p.2.2.1 p.2.2.2

/-- The text of the first k points. -/
def dsL (F : Nat → Int × Bool × ByteArray × ByteArray) : Nat → List UInt8
  | 0 => []
  | k + 1 => dsL F k ++ (if k = 0 then [] else [32]) ++ ptL (F k)
def dsS (F : Nat → Int × Bool × ByteArray × ByteArray) (k : Nat) : ByteArray := ⟨(dsL F k).toArray⟩

/-- What FormatDist answers. -/
def fdRes (F : Nat → Int × Bool × ByteArray × ByteArray) (n : Nat) : Value :=
  if distOk F n = true then .tuple #[.string (dsS F n), .bool true] else .tuple #[.string ⟨#[]⟩, .bool false]

theorem fmtL_len (b : Bool) (x y : ByteArray) (hx : x.size ≤ 120) (hy : y.size ≤ 120) : (fmtL b x y).length ≤ 242 := by
  unfold fmtL
  have l1 := len_list x
  have l2 := len_list y
  cases b <;> cases (y.toList == [49]) <;> simp <;> omega

theorem dsL_len {F : Nat → Int × Bool × ByteArray × ByteArray} {n : Nat} (h : ptsOk F n = true) : ∀ k, k ≤ n → (dsL F k).length ≤ 300 * k := by
  intro k
  induction k with
  | zero => intro _; exact Nat.zero_le _
  | succ k ih =>
    intro hk
    have hp := ptOk_parts (ptsOk_at h (show k < n by omega))
    obtain ⟨m1, m2, _, _⟩ := validR_num hp.2.2.1
    have q1 := (isNum_parts m1).1.2
    have q2 := (isNum_parts m2).1.2
    have h1 := ih (by omega)
    have h2 := fmtL_len (F k).2.1 (F k).2.2.1 (F k).2.2.2 q1 q2
    have h3 := Lib.itoa_length_le (F k).1 (by omega) (by omega)
    unfold dsL ptL
    rcases Nat.eq_zero_or_pos k with rfl | hk0
    · simp [dsL]; omega
    · simp [show k ≠ 0 by omega]; omega

set_option maxRecDepth 100000 in
set_option maxHeartbeats 1600000 in
theorem l2Int_any (v : Int) (w : World) (h1 : -1000 ≤ v) (h2 : v ≤ 1000) :
    Calls Tryz.prog 101 #[.int .i64 v] w fun e w' => e = .returned (.string ⟨(Lib.itoa v).toArray⟩) ∧ Below w.heap.size w w' := by
  by_cases h : v < 0
  · have hw : IntKind.i64.wrap (-v) = ((v.natAbs : Nat) : Int) := by rw [IntWalk.i64_in _ (by omega)]; omega
    have hs : (⟨(Lib.itoa v).toArray⟩ : ByteArray) = ⟨#[45]⟩ ++ ⟨(decL v.natAbs).toArray⟩ := by
      unfold Lib.itoa
      rw [if_pos h, decL_dec, bytes_app]
      simp only [toList_mk]
      rfl
    rw [hs]
    have hl := Lib.itoa_length_le v (by omega) (by omega)
    rw [Lib.itoa, if_pos h, decL_dec] at hl
    have C : Hid (∀ W, _) := Lib.hid fun W => num_any v.natAbs (by omega) W
    obtain ⟨s, hsd⟩ : ∃ s : ByteArray, s = ⟨(decL v.natAbs).toArray⟩ := ⟨_, rfl⟩
    have hsz : s.size ≤ 21 := by rw [hsd]; simp [ByteArray.size] at hl ⊢; omega
    rw [← hsd] at C ⊢
    have g1 : ¬ 9223372036854775807 < 1 + s.size := by omega
    clear hs hl hsd
    go_enter Tryz.func101, Tryz.ntmps101
    go_wp2_with (go_at_call 146; refine (C.out _).mono ?_; rintro e w1 ⟨rfl, hb1⟩)
    all_goals first
      | (exfalso; omega)
      | (go_ret; exact ⟨rfl, hb1⟩)
  · have hv : ((v.toNat : Nat) : Int) = v := by omega
    have hs : Lib.itoa v = decL v.toNat := by unfold Lib.itoa; rw [if_neg h, decL_dec]
    rw [hs]
    have C : Hid (∀ W, _) := Lib.hid fun W => num_any v.toNat (by omega) W
    rw [hv] at C
    go_enter Tryz.func101, Tryz.ntmps101
    go_wp2_with (go_at_call 146; refine (C.out _).mono ?_; rintro e w1 ⟨rfl, hb1⟩)
    all_goals first
      | (exfalso; omega)
      | (go_ret; exact ⟨rfl, hb1⟩)

theorem holdD {W w' : World} {T : Nat} {t : TypeId} {a b c d : Value} (h : Box W T t #[a, b, c, d]) (hb : Below W.heap.size W w') : w'.cell? ⟨T, 0, none⟩ = some a ∧ w'.cell? ⟨T, 1, none⟩ = some b ∧ w'.cell? ⟨T, 2, none⟩ = some c ∧ w'.cell? ⟨T, 3, none⟩ = some d ∧ Below W.heap.size W w' := by
  obtain ⟨h0, h1, h2, h3, _⟩ := (h.below hb h.lt).four
  exact ⟨h0, h1, h2, h3, hb⟩
theorem holdD_of {W w' : World} {p1 p2 p3 p4 : Prop} (h : p1 ∧ p2 ∧ p3 ∧ p4 ∧ Below W.heap.size W w') : Below W.heap.size W w' := h.2.2.2.2

set_option maxRecDepth 100000 in
set_option maxHeartbeats 3200000 in
theorem fdS_any (A0 : Option Addr) (n cap : Nat) (F : Nat → Int × Bool × ByteArray × ByteArray) (w : World) (hn : n ≤ 1048576) (hA : PtAt w A0 n F) (hs : ∀ j, j < n → (F j).2.2.1.size ≤ 9223372036854775807 ∧ (F j).2.2.2.size ≤ 9223372036854775807) :
    Calls Tryz.prog 47 #[.agg #[.slice A0 n cap]] w fun e w' => e = .returned (fdRes F n) ∧ Below w.heap.size w w' := by
  have CV : Hid (∀ W, Below w.heap.size w W → _) := Lib.hid fun W hW => validD_any A0 n cap F W hn (hA.below hW (Nat.le_refl _)) hs
  have hD := Box.new w 32 #[.slice A0 n cap]
  have hB := (Below.refl w.heap.size w).alloc (Nat.le_refl _) (.cells #[.slice A0 n cap] 32)
  have hd0 := hD.cell 0
  obtain ⟨r, hr⟩ : ∃ r, r = fdRes F n := ⟨_, rfl⟩
  rw [← hr]
  have Hr := Lib.hid hr; clear hr
  cases hv : distOk F n with
  | false =>
    rw [hv] at CV
    have hres : r = .tuple #[.string ⟨#[]⟩, .bool false] := by rw [Hr.out]; unfold fdRes; rw [if_neg (by rw [hv]; decide)]
    have Hres := Lib.hid hres
    clear hv hA hs hres
    go_enter Tryz.func47, Tryz.ntmps47
    go_wp2_with (go_at_call 61; refine (CV.out _ hB).mono ?_; rintro e w1 ⟨rfl, hb1⟩; have hB1 := hB.trans (hb1.mono hB.size))
    go_ret2
    exact ⟨by rw [Hres.out]; rfl, hB1⟩
  | true =>
    rw [hv] at CV
    obtain ⟨hn6, hok, _⟩ := distOk_parts hv
    have HV := Lib.hid hv
    have HA := Lib.hid hA
    have HP := Lib.hid hok
    clear hv hA hs hok
    go_enter Tryz.func47, Tryz.ntmps47
    go_wp2_with (go_at_call 61; refine (CV.out _ hB).mono ?_; rintro e w1 ⟨rfl, hb1⟩; have hB1 := hB.trans (hb1.mono hB.size); have hd1 := (hD.below hb1 hD.lt).cell 0)
    go_loopg [4, 13] n (fun q sv iv wr => ∃ k : Nat, k + q = n ∧ iv = .int .i64 (k : Nat) ∧ sv = .string (dsS F k) ∧ Below w.heap.size w wr)
    case atStart => exact ⟨0, by omega, rfl, rfl, hB1⟩
    case round =>
      obtain ⟨k, hkq, rfl, rfl, hbel⟩ := hrel
      clear hD hB hd0 hB1 hd1 hb1
      by_cases hk0 : k < n
      · have hAw : PtAt wr A0 n F := HA.out.below hbel (Nat.le_refl _)
        obtain ⟨b, off, rfl, hb, r0, r1, r2, r3⟩ := hAw.at_ hk0
        have hp := ptOk_parts (ptsOk_at HP.out hk0)
        obtain ⟨m1, m2, _, _⟩ := validR_num hp.2.2.1
        have q1 := (isNum_parts m1).1.2
        have q2 := (isNum_parts m2).1.2
        have hlen := dsL_len HP.out k (by omega)
        have hstep : dsS F (k + 1) = ⟨(dsL F k ++ (if k = 0 then [] else [32]) ++ ptL (F k)).toArray⟩ := rfl
        have hpt : ptL (F k) = Lib.itoa (F k).1 ++ 58 :: fmtL (F k).2.1 (F k).2.2.1 (F k).2.2.2 := rfl
        have hfl := fmtL_len (F k).2.1 (F k).2.2.1 (F k).2.2.2 q1 q2
        have hil := Lib.itoa_length_le (F k).1 (by omega) (by omega)
        have CI : Hid (∀ W, _) := Lib.hid fun W => l2Int_any (F k).1 W hp.1.1 hp.1.2
        have CF : Hid (∀ W, _) := Lib.hid fun W => specFormat1_any (F k).2.1 (F k).2.2.1 (F k).2.2.2 W q1 q2
        obtain ⟨⟨pv, rb, rx, ry⟩, hF⟩ : ∃ t, t = F k := ⟨_, rfl⟩
        rw [← hF] at r0 r1 r2 r3 CI CF hpt hfl hil
        simp only at r0 r1 r2 r3 CI CF hpt hfl hil
        obtain ⟨I, hI⟩ : ∃ I : ByteArray, I = ⟨(Lib.itoa pv).toArray⟩ := ⟨_, rfl⟩
        obtain ⟨M, hM⟩ : ∃ M : ByteArray, M = fmtS rb rx ry := ⟨_, rfl⟩
        obtain ⟨S, hS⟩ : ∃ S : ByteArray, S = dsS F k := ⟨_, rfl⟩
        have zI : I.size ≤ 21 := by rw [hI]; simpa [ByteArray.size] using hil
        have zM : M.size ≤ 242 := by rw [hM]; unfold fmtS; simpa [ByteArray.size] using hfl
        have zS : S.size ≤ 300 * k := by rw [hS]; unfold dsS; simpa [ByteArray.size] using hlen
        rw [← hI] at CI
        rw [← hM] at CF
        rw [← hS]
        have hend : dsS F (k + 1) = if k = 0 then S ++ (I ++ ⟨#[58]⟩ ++ M) else S ++ ⟨#[32]⟩ ++ (I ++ ⟨#[58]⟩ ++ M) := by
          have h58 : (⟨#[58]⟩ : ByteArray).toList = [58] := toList_mk [58]
          have h32 : (⟨#[32]⟩ : ByteArray).toList = [32] := toList_mk [32]
          rw [hstep, ← hF, hpt, hS, hI, hM]
          unfold dsS fmtS
          split <;> simp [bytes_app, h58, h32]
        have Hend := Lib.hid hend
        have g1 : ¬ 9223372036854775807 < S.size + 1 := by omega
        have g2 : ¬ 9223372036854775807 < I.size + 1 := by omega
        have g3 : ¬ 9223372036854775807 < I.size + 1 + M.size := by omega
        have g4 : ¬ 9223372036854775807 < S.size + (I.size + 1 + M.size) := by omega
        have g5 : ¬ 9223372036854775807 < S.size + 1 + (I.size + 1 + M.size) := by omega
        have hT := Box.new wr 93 #[.int .i64 pv, .bool rb, .string rx, .string ry]
        have hal := (Below.refl wr.heap.size wr).alloc (Nat.le_refl _) (.cells #[.int .i64 pv, .bool rb, .string rx, .string ry] 93)
        replace hbel := hbel.trans (hal.mono hbel.size)
        clear hb hAw hal hp m1 m2 q1 q2 hlen hstep hpt hfl hil hF hI hM hS zI zM zS hend
        by_cases hz : k = 0
        all_goals
          have hd : decide (0 < k) = !decide (k = 0) := by simp [Nat.pos_iff_ne_zero]
          first
            | rw [decide_eq_true hz] at hd
            | rw [decide_eq_false hz] at hd
          have hdI : decide ((0 : Int) < (k : Int)) = decide (0 < k) := by rw [Bool.eq_iff_iff, decide_eq_true_iff, decide_eq_true_iff]; omega
          rw [hd] at hdI
          have HZ := Lib.hid hz
          clear hz
          go_upto_region 9 with fail
          generalize hW : World.alloc wr _ = W at hT hbel ⊢
          clear hW r0 r1 r2 r3
          go_region_held3 (fun w' => w'.cell? ⟨wr.heap.size, 0, none⟩ = some (.int .i64 pv) ∧ w'.cell? ⟨wr.heap.size, 1, none⟩ = some (.bool rb) ∧ w'.cell? ⟨wr.heap.size, 2, none⟩ = some (.string rx) ∧ w'.cell? ⟨wr.heap.size, 3, none⟩ = some (.string ry) ∧ Below W.heap.size W w')
            ((refine holdD hT ?_; first | exact (Below.refl _ W).drew | exact holdD_of (by assumption) | (refine step6R (holdD_of (by assumption)) ?_; assumption)))
            (first
              | (go_at_call 101; refine (CI.out _).mono ?_; rintro e wa ⟨rfl, hba⟩)
              | (go_at_call 102; refine (CF.out _).mono ?_; rintro e wb ⟨rfl, hbb⟩))
          all_goals have hq := hbel.trans ((holdD_of (by assumption)).mono hbel.size)
          all_goals go_wp2_with fail
          all_goals go_roundg (gk - 1)
          case measure => omega
          case rel => exact ⟨k + 1, by omega, by go_num, by rw [Hend.out]; simp [HZ.out], hq⟩
      · obtain rfl : k = n := by omega
        have hres : r = .tuple #[.string (dsS F k), .bool true] := by rw [Hr.out]; unfold fdRes; rw [if_pos HV.out]
        have Hres := Lib.hid hres
        clear hres
        obtain ⟨S, hS⟩ : ∃ S : ByteArray, S = dsS F k := ⟨_, rfl⟩
        rw [← hS] at Hres ⊢
        go_wp2_with fail
        go_ret2
        exact ⟨by rw [Hres.out]; rfl, hbel⟩

end Go.Proofs.YtlfghhmphgidjaaGreatDoor
