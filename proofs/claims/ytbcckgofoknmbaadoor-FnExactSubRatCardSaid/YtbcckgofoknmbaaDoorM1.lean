/-
  Several texts in one: Small, Cmp, Trim, FromInt.
-/
import Derived.Test.YtbcckgofoknmbaaDoorHold
/-
  Walks of the model's small functions on integers.
-/
namespace Go.Proofs.YtbcckgofoknmbaaDoor
open Go.RowKit Num

/-- The sign of a number. -/
def sgn (n : Int) : Int := if n < 0 then -1 else if 0 < n then 1 else 0

set_option maxHeartbeats 400000 in
theorem sign_any (n : Int) (w : World) : Calls Tryd.prog 35 #[.int .i64 n] w fun e w' => e = .returned (.int .i64 (sgn n)) ∧ w = w' := by
  by_cases h1 : n < 0
  · go_enter Tryd.func35, Tryd.ntmps35
    go_wp2
    go_ret
    exact ⟨ret_int (by simp [sgn, h1]), rfl⟩
  · by_cases h2 : 0 < n
    · go_enter Tryd.func35, Tryd.ntmps35
      go_wp2
      go_ret
      exact ⟨ret_int (by rw [sgn, if_neg (by omega), if_pos (by omega)]), rfl⟩
    · go_enter Tryd.func35, Tryd.ntmps35
      go_wp2
      go_ret
      exact ⟨ret_int (by rw [sgn, if_neg (by omega), if_neg (by omega)]), rfl⟩

end Go.Proofs.YtbcckgofoknmbaaDoor
/-
  The model's comparison of two natural numbers.
-/
namespace Go.Proofs.YtbcckgofoknmbaaDoor
open Go.RowKit Num

set_option maxHeartbeats 400000 in
theorem cmp_ne (aa ab : Option Addr) (la ca lb cb : Nat) (w : World) (ha : la ≤ maxLen) (hb : lb ≤ maxLen) (hne : (la : Int) < lb ∨ (lb : Int) < la) :
    Calls Tryd.prog 24 #[.slice aa la ca, .slice ab lb cb] w fun e w' => e = .returned (.int .i64 (sgn ((la : Int) - lb))) ∧ ∃ nq, w' = w.drewN nq := by
  unfold maxLen at ha hb
  go_enter Tryd.func24, Tryd.ntmps24
  go_wp2_with (go_at_call 35; refine (sign_any _ _).mono ?_; rintro e w' ⟨rfl, rfl⟩)
  go_ret
  exact ⟨rfl, 0, rfl⟩

set_option maxHeartbeats 400000 in
theorem cmp_eq (ba oa ca bb ob cb n : Nat) (d e : Nat → Nat) (w : World) (hn : n ≤ maxLen)
    (hA : ∀ j, j < n → w.cell? ⟨ba, oa + j, none⟩ = some (.int .i64 (d j : Nat))) (hB : ∀ j, j < n → w.cell? ⟨bb, ob + j, none⟩ = some (.int .i64 (e j : Nat)))
    (hd : ∀ j, j < n → d j < 10000) (he : ∀ j, j < n → e j < 10000) (m : Nat) (hm : m ≤ n) (heq : ∀ j, m ≤ j → j < n → d j = e j) (hmne : 0 < m → d (m - 1) ≠ e (m - 1)) :
    Calls Tryd.prog 24 #[.slice (some ⟨ba, oa, none⟩) n ca, .slice (some ⟨bb, ob, none⟩) n cb] w fun e' w' => e' = .returned (.int .i64 (if m = 0 then 0 else sgn ((d (m - 1) : Int) - e (m - 1)))) ∧ ∃ nq, w' = w.drewN nq := by
  unfold maxLen at hn
  have Heq := Lib.hid heq; clear heq
  have Hmne := Lib.hid hmne; clear hmne
  have HA := Lib.hid hA; clear hA
  have HB := Lib.hid hB; clear hB
  have Hd := Lib.hid hd; clear hd
  have He := Lib.hid he; clear he
  go_enter Tryd.func24, Tryd.ntmps24
  go_wp2_with fail
  go_loopw [5] (fun i wr => ∃ k nq : Nat, m ≤ k ∧ k ≤ n ∧ i = .int .i64 ((k : Int) - 1) ∧ wr = w.drewN nq) (fun i _ => ((intOf i) + 1).toNat)
  case atStart => exact ⟨n, 0, by omega, by omega, rfl, rfl⟩
  case round =>
    obtain ⟨k, n0, hk1, hk2, rfl, hwr⟩ := hrel
    have Hwr := Lib.hid hwr; clear hwr
    by_cases hk0 : 1 ≤ k
    · have h1 : wr.cell? ⟨ba, oa + (k - 1), none⟩ = some (.int .i64 (d (k - 1) : Nat)) := by rw [Hwr.out]; exact HA.out (k - 1) (by omega)
      have h2 : wr.cell? ⟨bb, ob + (k - 1), none⟩ = some (.int .i64 (e (k - 1) : Nat)) := by rw [Hwr.out]; exact HB.out (k - 1) (by omega)
      have h3 := Hd.out (k - 1) (by omega)
      have h4 := He.out (k - 1) (by omega)
      by_cases hkm : k = m
      · have hne := Hmne.out (by omega)
        subst hkm
        have hnb : ((d (k - 1) : Int) != (e (k - 1) : Int)) = true := by rw [bne_iff_ne]; omega
        go_wp2_with fail
        go_quiet (fail)
        go_wp2_with fail
        go_quiet ((go_at_call 35; first | exact quiet_left (sign_any _ _) | exact quiet_add_left (sign_any _ _)))
        go_wp2_with fail
        go_ret
        exact ⟨rfl, _, by rw [Hwr.out]; simp only [World.drewN_drewN]; rfl⟩
      · have hq := Heq.out (k - 1) (by omega) (by omega)
        have hnb : ((d (k - 1) : Int) != (e (k - 1) : Int)) = false := by rw [hq]; simp
        have Hq := Lib.hid hq; clear hq
        go_wp2_with fail
        go_quiet (fail)
        go_wp2_with fail
        go_roundw
        case rel => exact ⟨k - 1, _, by omega, by omega, by go_num, by rw [Hwr.out, World.drewN_drewN]⟩
        case measure => simp [intOf]; omega
    · have : k = 0 := by omega
      subst this
      obtain rfl : m = 0 := by omega
      go_wp2_with fail
      go_ret
      exact ⟨rfl, _, Hwr.out⟩

set_option maxHeartbeats 400000 in
theorem cmp_empty (aa ab : Option Addr) (ca cb : Nat) (w : World) :
    Calls Tryd.prog 24 #[.slice aa 0 ca, .slice ab 0 cb] w fun e' w' => e' = .returned (.int .i64 0) ∧ ∃ nq, w' = w.drewN nq := by
  go_enter Tryd.func24, Tryd.ntmps24
  go_wp2_with fail
  refine wp_loop_rounds 1 ?_
  rw [rounds_succ]
  go_wp2_with fail
  go_ret
  exact ⟨rfl, 0, rfl⟩

/-- -1, 0 or 1 as x is less than, equal to or greater than y. -/
def cmpI (x y : Nat) : Int := if x < y then -1 else if y < x then 1 else 0

theorem top_diff (d e : Nat → Nat) (n : Nat) : ∃ m, m ≤ n ∧ (∀ j, m ≤ j → j < n → d j = e j) ∧ (0 < m → d (m - 1) ≠ e (m - 1)) := by
  induction n with
  | zero => exact ⟨0, by omega, fun j _ h => by omega, fun h => by omega⟩
  | succ n ih =>
    by_cases h : d n = e n
    · obtain ⟨m, h1, h2, h3⟩ := ih
      refine ⟨m, by omega, fun j hj hj' => ?_, h3⟩
      by_cases hjn : j = n
      · subst hjn; exact h
      · exact h2 j hj (by omega)
    · exact ⟨n + 1, by omega, fun j _ h' => by omega, fun _ => by simpa using h⟩

theorem take_one_drop (xs : List Nat) (m : Nat) (h : m < xs.length) : xs = xs.take m ++ xs[m] :: xs.drop (m + 1) := by
  rw [← List.drop_eq_getElem_cons h, List.take_append_drop]

theorem top_lt (b x y m : Nat) (hb : 2 ≤ b) (hl : ln b x = ln b y) (hm : m < ln b x) (heq : ∀ j, m + 1 ≤ j → j < ln b x → (digs b x).getD j 0 = (digs b y).getD j 0) (hlt : (digs b x).getD m 0 < (digs b y).getD m 0) : x < y := by
  have hmx : m < (digs b x).length := hm
  have hmy : m < (digs b y).length := by rw [length_digs, ← hl]; exact hm
  rw [getD_eq _ _ hmx, getD_eq _ _ hmy] at hlt
  have hd : (digs b x).drop (m + 1) = (digs b y).drop (m + 1) := by
    apply List.ext_getElem
    · simp only [List.length_drop, length_digs, hl]
    · intro i h1 h2
      simp only [List.length_drop, length_digs] at h1 h2
      have := heq (m + 1 + i) (by omega) (by omega)
      rw [getD_eq _ _ (by rw [length_digs]; omega), getD_eq _ _ (by rw [length_digs]; omega)] at this
      simpa using this
  rw [← val_digs b hb x, ← val_digs b hb y, take_one_drop _ _ hmx, take_one_drop _ _ hmy, hd]
  exact val_lt_of_top b _ _ _ _ _ ((dig_digs b hb x).take _) ((dig_digs b hb y).take _) (by simp only [List.length_take, length_digs, hl]) hlt

theorem digs_inj (b x y : Nat) (hb : 2 ≤ b) (hl : ln b x = ln b y) (h : ∀ j, j < ln b x → (digs b x).getD j 0 = (digs b y).getD j 0) : x = y := by
  rw [← val_digs b hb x, ← val_digs b hb y]
  congr 1
  apply List.ext_getElem (by rw [length_digs, length_digs, hl])
  intro i h1 h2
  have := h i h1
  rwa [getD_eq _ _ h1, getD_eq _ _ h2] at this

theorem getD_lt (b x j : Nat) (hb : 2 ≤ b) : (digs b x).getD j 0 < b := by
  by_cases h : j < (digs b x).length
  · rw [getD_eq _ _ h]; exact (dig_digs b hb x).get j h
  · rw [List.getD, List.getElem?_eq_none (by omega)]; simp; omega

/-- The model's comparison of two numbers. -/
theorem cmpNat_any (va vb : Value) (x y : Nat) (w : World) (ha : Nums 3 .i64 10000 w va x) (hb : Nums 3 .i64 10000 w vb y) :
    Calls Tryd.prog 24 #[va, vb] w fun e w' => e = .returned (.int .i64 (cmpI x y)) ∧ ∃ nq, w' = w.drewN nq := by
  obtain ⟨aa, ca, rfl, hca, ha'⟩ : ∃ aa ca, va = .slice aa (ln 10000 x) ca ∧ ln 10000 x ≤ maxLen ∧ (0 < ln 10000 x → ∃ b off, aa = some ⟨b, off, none⟩ ∧ ∀ j, j < ln 10000 x → w.cell? ⟨b, off + j, none⟩ = some (.int .i64 ((digs 10000 x).getD j 0 : Nat))) := by
    rcases ha with ⟨rfl, h0⟩ | ⟨b, off, cap, rfl, h1, h2, h3, h4⟩
    · exact ⟨none, 0, by rw [h0], by rw [h0]; exact Nat.zero_le _, fun h => by omega⟩
    · exact ⟨_, _, rfl, by omega, fun _ => ⟨b, off, rfl, h4⟩⟩
  obtain ⟨ab, cb, rfl, hcb, hb'⟩ : ∃ aa ca, vb = .slice aa (ln 10000 y) ca ∧ ln 10000 y ≤ maxLen ∧ (0 < ln 10000 y → ∃ b off, aa = some ⟨b, off, none⟩ ∧ ∀ j, j < ln 10000 y → w.cell? ⟨b, off + j, none⟩ = some (.int .i64 ((digs 10000 y).getD j 0 : Nat))) := by
    rcases hb with ⟨rfl, h0⟩ | ⟨b, off, cap, rfl, h1, h2, h3, h4⟩
    · exact ⟨none, 0, by rw [h0], by rw [h0]; exact Nat.zero_le _, fun h => by omega⟩
    · exact ⟨_, _, rfl, by omega, fun _ => ⟨b, off, rfl, h4⟩⟩
  by_cases hl : ln 10000 x = ln 10000 y
  · by_cases h0 : ln 10000 x = 0
    · have hx := (ln_eq_zero 10000 x (by omega)).1 h0
      have hy := (ln_eq_zero 10000 y (by omega)).1 (by omega)
      subst hx; subst hy
      exact cmp_empty _ _ _ _ _
    · obtain ⟨ba, oa, rfl, hA⟩ := ha' (by omega)
      obtain ⟨bb, ob, rfl, hB⟩ := hb' (by omega)
      obtain ⟨m, h1, h2, h3⟩ := top_diff (fun j => (digs 10000 x).getD j 0) (fun j => (digs 10000 y).getD j 0) (ln 10000 x)
      rw [← hl] at hB ⊢
      refine (cmp_eq ba oa ca bb ob cb (ln 10000 x) _ _ w hca hA hB (fun j _ => getD_lt _ _ _ (by omega)) (fun j _ => getD_lt _ _ _ (by omega)) m h1 h2 h3).mono fun e w' ⟨he, hw⟩ => ⟨?_, hw⟩
      rw [he]
      apply ret_int
      by_cases hm : m = 0
      · subst hm
        have : x = y := digs_inj 10000 x y (by omega) hl fun j hj => h2 j (Nat.zero_le _) hj
        subst this
        simp [cmpI]
      · rw [if_neg hm]
        have h3' := h3 (by omega)
        rcases Nat.lt_or_gt_of_ne h3' with hlt | hgt
        · have hxy := top_lt 10000 x y (m - 1) (by omega) hl (by omega) (fun j hj hj' => h2 j (by omega) hj') hlt
          rw [cmpI, if_pos hxy, sgn, if_pos (by omega)]
        · have hxy := top_lt 10000 y x (m - 1) (by omega) hl.symm (by omega) (fun j hj hj' => (h2 j (by omega) (by omega)).symm) hgt
          rw [cmpI, if_neg (by omega), if_pos hxy, sgn, if_neg (by omega), if_pos (by omega)]
  · refine (cmp_ne aa ab _ ca _ cb w hca hcb (by omega)).mono fun e w' ⟨he, hw⟩ => ⟨?_, hw⟩
    rw [he]
    apply ret_int
    rcases Nat.lt_or_gt_of_ne hl with hlt | hgt
    · have := lt_of_ln_lt 10000 x y (by omega) hlt
      rw [cmpI, if_pos this, sgn, if_pos (by omega)]
    · have := lt_of_ln_lt 10000 y x (by omega) hgt
      rw [cmpI, if_neg (by omega), if_pos this, sgn, if_neg (by omega), if_pos (by omega)]

end Go.Proofs.YtbcckgofoknmbaaDoor
/-
  The model's trimming of leading zeros, and its conversion of an int.
-/
namespace Go.Proofs.YtbcckgofoknmbaaDoor
open Go.RowKit Num

theorem Tryd.info_int : (Tryd.prog.info? 3).map (fun i => (i.zero, i.size, i.bytes)) = some (some (.int .i64 0), 1, 8) := by kernel_rfl

set_option maxHeartbeats 400000 in
theorem trim_row (b off n cap m : Nat) (d : Nat → Nat) (w : World) (hn : n ≤ cap) (hcap : cap ≤ maxLen) (hm : m ≤ n)
    (hA : ∀ j, j < n → w.cell? ⟨b, off + j, none⟩ = some (.int .i64 (d j : Nat))) (hz : ∀ j, m ≤ j → j < n → d j = 0) (hnz : 0 < m → d (m - 1) ≠ 0) :
    Calls Tryd.prog 33 #[.slice (some ⟨b, off, none⟩) n cap] w fun e w' => e = .returned (.slice (some ⟨b, off, none⟩) m cap) ∧ w = w' := by
  unfold maxLen at hcap
  have HA := Lib.hid hA; clear hA
  have HZ := Lib.hid hz; clear hz
  have HNZ := Lib.hid hnz; clear hnz
  go_enter Tryd.func33, Tryd.ntmps33
  go_wp2_with fail
  go_loop [0] (fun v => ∃ k : Nat, m ≤ k ∧ k ≤ n ∧ v = .slice (some ⟨b, off, none⟩) k cap) (fun v => match v with | .slice _ k _ => k | _ => 0)
  case atStart => exact ⟨n, by omega, by omega, rfl⟩
  case round =>
    obtain ⟨k, hk1, hk2, rfl⟩ := hrel
    by_cases hk0 : 0 < k
    · have h1 : w.cell? ⟨b, off + (k - 1), none⟩ = some (.int .i64 (d (k - 1) : Nat)) := HA.out (k - 1) (by omega)
      by_cases hkm : k = m
      · have h2 := HNZ.out (by omega)
        subst hkm
        have h3 : ((d (k - 1) : Int) == 0) = false := by rw [beq_eq_false_iff_ne]; omega
        go_wp2_with fail
        go_ret
        exact ⟨rfl, rfl⟩
      · have h2 := HZ.out (k - 1) (by omega) (by omega)
        have h3 : ((d (k - 1) : Int) == 0) = true := by rw [beq_iff_eq]; omega
        have H2 := Lib.hid h2; clear h2
        go_wp2_with fail
        go_round
        case rel => exact ⟨k - 1, by omega, by omega, rfl⟩
        case measure => simp; omega
    · obtain rfl : k = 0 := by omega
      obtain rfl : m = 0 := by omega
      go_wp2_with fail
      go_ret
      exact ⟨rfl, rfl⟩

set_option maxHeartbeats 400000 in
theorem trim_nil (w : World) :
    Calls Tryd.prog 33 #[.slice none 0 0] w fun e w' => e = .returned (.slice none 0 0) ∧ w = w' := by
  go_enter Tryd.func33, Tryd.ntmps33
  go_wp2_with fail
  refine wp_loop_rounds 1 ?_
  rw [rounds_succ]
  go_wp2_with fail
  go_ret
  exact ⟨rfl, rfl⟩

theorem top_nonzero (d : Nat → Nat) (n : Nat) : ∃ m, m ≤ n ∧ (∀ j, m ≤ j → j < n → d j = 0) ∧ (0 < m → d (m - 1) ≠ 0) := top_diff d (fun _ => 0) n

theorem RowF.congr {t : TypeId} {k : IntKind} {w : World} {v : Value} {n : Nat} {d e : Nat → Nat} (h : RowF t k w v n d) (he : ∀ j, j < n → d j = e j) : RowF t k w v n e := by
  rcases h with h | ⟨b, off, cap, rfl, h1, h2, h3, h4⟩
  · exact .inl h
  · exact .inr ⟨b, off, cap, rfl, h1, h2, h3, fun j hj => by rw [h4 j hj, he j hj]⟩

/-- The digits that trimming leaves. -/
theorem strip_row {t : TypeId} {k : IntKind} {b : Nat} (hb : 2 ≤ b) {w : World} {v : Value} {m : Nat} (xs : List Nat) (hd : Dig b xs) (hm : m ≤ xs.length) (hz : ∀ j, m ≤ j → j < xs.length → xs.getD j 0 = 0) (hnz : 0 < m → xs.getD (m - 1) 0 ≠ 0)
    (h : RowF t k w v m fun j => xs.getD j 0) : Nums t k b w v (val b xs) := by
  have e := strip b hb xs hd m hm (fun j hj hmj => by rw [← getD_eq _ _ hj]; exact hz j hmj hj) (fun h0 => by rw [← getD_eq _ _ (by omega)]; exact hnz h0)
  have hl : ln b (val b xs) = m := by rw [ln, ← e, List.length_take]; omega
  unfold Nums
  rw [hl]
  refine h.congr fun j hj => ?_
  rw [← e]
  simp [List.getD, hj]

/-- Trimming a row of digits: the result is the number, in the same block. -/
theorem trim_at (v : Value) (xs : List Nat) (w : World) (hd : Dig 10000 xs) (h : RowF 3 .i64 w v xs.length fun j => xs.getD j 0) :
    Calls Tryd.prog 33 #[v] w fun e w' => (∃ v', e = .returned v' ∧ Nums 3 .i64 10000 w v' (val 10000 xs) ∧ v'.ownBlock = v.ownBlock) ∧ w = w' := by
  rcases h with ⟨rfl, h0⟩ | ⟨b, off, cap, rfl, h1, h2, h3, h4⟩
  · have hx : xs = [] := List.eq_nil_of_length_eq_zero h0
    subst hx
    exact (trim_nil w).mono fun e w' ⟨he, hw⟩ => ⟨⟨_, he, .inl ⟨rfl, rfl⟩, rfl⟩, hw⟩
  · obtain ⟨m, hm, hz, hnz⟩ := top_nonzero (fun j => xs.getD j 0) xs.length
    refine (trim_row b off xs.length cap m _ w h1 h2 hm h4 hz hnz).mono fun e w' ⟨he, hw⟩ => ⟨⟨_, he, ?_, rfl⟩, hw⟩
    exact strip_row (by omega) xs hd hm hz hnz (.inr ⟨b, off, cap, rfl, by omega, h2, h3, fun j hj => h4 j (by omega)⟩)

/-- Trimming a row of digits: the result is the number. -/
theorem trim_any (v : Value) (xs : List Nat) (w : World) (hd : Dig 10000 xs) (h : RowF 3 .i64 w v xs.length fun j => xs.getD j 0) :
    Calls Tryd.prog 33 #[v] w fun e w' => (∃ v', e = .returned v' ∧ Nums 3 .i64 10000 w v' (val 10000 xs)) ∧ w = w' :=
  (trim_at v xs w hd h).mono fun _ _ ⟨⟨v', he, hn, _⟩, hw⟩ => ⟨⟨v', he, hn⟩, hw⟩

/-- A row of the call's own reads as its numbers. -/
theorem rowF_own {k : IntKind} {w : World} {base : Nat} {e : TypeId} {v : Value} {n : Nat} (xs : List Nat) (hn : xs.length = n) (h : w.ownsRow base e 1 v n (xs.map fun x => .int k (x : Nat))) : RowF e k w v n fun j => xs.getD j 0 := by
  subst hn
  rcases h.2 with ⟨rfl, h0⟩ | ⟨g, cap, cur, rfl, hb, hg, h1, h2, h3, h4⟩
  · exact .inl ⟨rfl, h0⟩
  · refine .inr ⟨g, 0, cap, rfl, h1, h2, ⟨cur, hg⟩, fun j hj => ?_⟩
    have hc := h.cells (g := g) rfl j (.int k ((xs.getD j 0 : Nat) : Int)) (by rw [List.getElem?_map, List.getElem?_eq_getElem hj, getD_eq _ _ hj]; rfl)
    have hadd : (⟨g, 0, none⟩ : Addr).add j = ⟨g, 0 + j, none⟩ := by unfold Addr.add; split <;> simp_all
    rw [← hadd]; exact hc

theorem nums_own {k : IntKind} {b : Nat} (hb : 2 ≤ b) {w : World} {base : Nat} {e : TypeId} {v : Value} {n : Nat} (xs : List Nat) (hn : xs.length = n) (hd : Dig b xs) (hlo : xs ≠ [] → b ^ (xs.length - 1) ≤ val b xs) (h : w.ownsRow base e 1 v n (xs.map fun x => .int k (x : Nat))) : Nums e k b w v (val b xs) := by
  have e1 := digs_val b hb xs hd hlo
  unfold Nums
  rw [show ln b (val b xs) = xs.length from by rw [ln, e1], e1]
  exact rowF_own xs rfl (by subst hn; exact h)

end Go.Proofs.YtbcckgofoknmbaaDoor
/-
  The model's conversion of an int, one digit appended a round.
-/
namespace Go.Proofs.YtbcckgofoknmbaaDoor
open Go.RowKit Num

theorem below_grown_own {B : Nat} {w wr w1 : World} {o : Obj} {v : Value} {base : Nat} {e : TypeId} {n : Nat} {xs : List Value} (hbel : Below B w wr) (hB : B ≤ wr.heap.size) (hbase : B ≤ base) (hown : wr.ownsRow base e 1 v n xs) (hgrow : (wr.alloc o).grownBy w1 v.ownBlock) : Below B w w1 :=
  (hbel.alloc hB o).grown hgrow (by simp; omega) (fun k hk => by have := (hown.lt k hk).1; omega)

theorem own_snoc {k : IntKind} {w1 : World} {base : Nat} {e : TypeId} {v' : Value} {pre : List Nat} {x : Int} {y : Nat} (hxy : x = (y : Nat)) (hown' : w1.ownsRow base e 1 v' (pre.length + 1) (pre.map (fun x => Value.int k (x : Nat)) ++ [.int k x])) :
    w1.ownsRow base e 1 v' (pre ++ [y]).length ((pre ++ [y]).map fun x => Value.int k (x : Nat)) := by
  subst hxy
  simpa using hown'

/-- 2^40, behind a name: no number format of the program comes near it. -/
def big : Nat := 1099511627776
theorem big_val : big = 1099511627776 := rfl

theorem ln_int (n : Nat) (h : n < 9223372036854775808) : ln 10000 n ≤ 5 := ln_le_of_lt _ _ _ (by omega) (by omega)

set_option maxHeartbeats 400000 in
theorem fromInt_any (n : Nat) (w : World) (hn : n < 9223372036854775808) :
    Calls Tryd.prog 49 #[.int .i64 (n : Nat)] w fun e w' => (∃ v, e = .returned v ∧ Nums 3 .i64 10000 w' v n) ∧ Below w.heap.size w w' := by
  obtain ⟨i0, hi, hz0, hz1, hz2⟩ := info_parts Tryd.info_int
  have Hn := Lib.hid hn; clear hn
  go_enter Tryd.func49, Tryd.ntmps49
  go_wp2_with fail
  go_loopw [0, 3] (fun t v wr => ∃ (r : Nat) (pre : List Nat), t = .int .i64 (r : Nat) ∧ digs 10000 n = pre ++ digs 10000 r ∧ r < 9223372036854775808 ∧ wr.ownsRow w.heap.size 3 1 v pre.length (pre.map fun x => .int .i64 (x : Nat)) ∧ Below w.heap.size w wr) (fun t _ _ => (intOf t).toNat)
  case atStart => exact ⟨n, [], rfl, rfl, Hn.out, World.ownsRow_nil _ _ _ _, Below.refl _ _⟩
  case round =>
    obtain ⟨r, pre, rfl, hpre, hr, hown, hbel⟩ := hrel
    have hlen : pre.length ≤ 5 := by
      have h1 := ln_int n Hn.out
      have h2 : ln 10000 n = pre.length + ln 10000 r := by rw [ln, hpre, List.length_append]; rfl
      omega
    have Hpre := Lib.hid hpre; clear hpre
    by_cases h0 : 0 < r
    · go_wp2_with (at_builtin; refine wpList_append_own _ rfl _ _ 34 rfl w.heap.size 3 i0 (.int .i64 0) 1 8 Tryd.underlying34 hi hz0 hz1 hz2 rfl (by decide) _ _ _ rfl (hown.alloc _) ⟨wr.heap.size, 0, none⟩ 1 1 [.int .i64 ((r : Int) % 10000)] rfl rfl ?c1 ?c2 ?c3 ?c4 ?c5 ?_)
      case c1 => exact cell_one_new _ _ _
      case c2 => intro u hu; simp at hu; subst hu; rfl
      case c3 => unfold maxLen; omega
      case c4 => omega
      case c5 => have := hbel.size; simp; omega
      intro v' w1 hown' hgrow _
      have hb1 := below_grown_own hbel hbel.size (Nat.le_refl _) hown hgrow
      have ho1 := own_snoc (y := r % 10000) (by omega) hown'
      clear hown' hgrow hown hbel
      go_wp2_with fail
      go_roundw
      case rel => exact ⟨r / 10000, pre ++ [r % 10000], by go_num, by rw [Hpre.out, List.append_assoc]; rw [digs_pos 10000 r (by omega) h0]; rfl, by omega, ho1, hb1⟩
      case measure => simp [intOf]; omega
    · obtain rfl : r = 0 := by omega
      go_wp2_with fail
      go_ret
      refine ⟨⟨_, rfl, ?_⟩, hbel⟩
      have e : pre = digs 10000 n := by rw [Hpre.out]; simp [digs_zero]
      have h1 := rowF_own pre rfl hown
      rw [e] at h1
      exact h1

end Go.Proofs.YtbcckgofoknmbaaDoor
