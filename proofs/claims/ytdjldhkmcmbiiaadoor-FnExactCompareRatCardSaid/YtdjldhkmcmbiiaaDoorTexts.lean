/-
  Several texts in one: Text, TextB.
-/
import Derived.Test.YtdjldhkmcmbiiaaDoorLow
import Derived.Deep.RegionWith
import Derived.Laws.BytesArg
/-
  The model's decimal numerals.
-/
namespace Go.Proofs.YtdjldhkmcmbiiaaDoor
open Go.RowKit Num

/-- The decimal numeral of n, as bytes. -/
def decL (n : Nat) : List UInt8 := if n = 0 then [48] else (digs 10 n).reverse.map fun d => UInt8.ofNat (48 + d)

theorem decL_small (n : Nat) (h : n < 10) : decL n = [UInt8.ofNat (48 + n)] := by
  unfold decL
  by_cases h0 : n = 0
  · subst h0; rfl
  · rw [if_neg h0, digs_small 10 n (by omega) (by omega) h]; rfl

theorem decL_len (n : Nat) (h : n < 100000) : (decL n).length ≤ 5 := by
  unfold decL
  split
  · simp
  · rw [List.length_map, List.length_reverse, length_digs]
    exact ln_le_of_lt _ _ _ (by omega) h

theorem decL_step (n : Nat) (h : 10 ≤ n) : decL n = decL (n / 10) ++ [UInt8.ofNat (48 + n % 10)] := by
  unfold decL
  rw [if_neg (by omega), if_neg (by omega), digs_pos 10 n (by omega) (by omega)]
  simp

set_option maxHeartbeats 400000 in
/-- A string of one byte out of a slice of one byte. -/
theorem conv_box {W : World} {g : Nat} {c : Int} (h : Box W g 5 #[.int .u8 c]) : (convert 76 9 (.slice (some ⟨g, 0, none⟩) 1 1)).run Tryd.prog W = .ok (.string ⟨#[UInt8.ofNat c.toNat]⟩) W :=
  run_convert_bytes_arg (P := Tryd.prog) W 76 5 Tryd.underlying76 Tryd.underlying5 g 0 1 1 [c] rfl (fun i hi => by
    obtain rfl : i = 0 := by omega
    exact h.cell 0) 9 Tryd.underlying9

theorem built_drew {w w1 : World} {t : TypeId} {cs : Array Value} (hb : Below (w.alloc (.cells cs t)).drew.heap.size (w.alloc (.cells cs t)).drew w1) : Box w1 w.heap.size t cs :=
  Box.below (w := (w.alloc (.cells cs t)).drew) (Box.new w t cs) hb (by show _ < (w.alloc (.cells cs t)).heap.size; simp)

/-- .. out of a new one. -/
theorem conv_one (w : World) (c : Int) : (convert 76 9 (.slice (some ⟨w.heap.size, 0, none⟩) 1 1)).run Tryd.prog (w.alloc (.cells #[.int .u8 c] 5)) = .ok (.string ⟨#[UInt8.ofNat c.toNat]⟩) (w.alloc (.cells #[.int .u8 c] 5)) :=
  conv_box (Box.new w 5 #[.int .u8 c])

/-- .. behind a draw. -/
theorem conv_one_drew (w : World) (c : Int) : (convert 76 9 (.slice (some ⟨w.heap.size, 0, none⟩) 1 1)).run Tryd.prog (w.alloc (.cells #[.int .u8 c] 5)).drew = .ok (.string ⟨#[UInt8.ofNat c.toNat]⟩) (w.alloc (.cells #[.int .u8 c] 5)).drew :=
  conv_box (W := (w.alloc (.cells #[.int .u8 c] 5)).drew) (Box.new w 5 #[.int .u8 c])

set_option maxRecDepth 100000 in
theorem num_small (n : Nat) (w : World) (h : n < 10) :
    Calls Tryd.prog 95 #[.int .i64 (n : Nat)] w fun e w' => e = .returned (.string ⟨(decL n).toArray⟩) ∧ Below w.heap.size w w' := by
  have hcv := conv_one
  go_enter Tryd.func95, Tryd.ntmps95
  go_wp2_with fail
  go_ret
  exact ⟨by rw [decL_small n h]; simp, (Below.refl _ w).alloc (Nat.le_refl _) _⟩

/-- What one step of the model's numeral comes to. -/
theorem dec_join (n : Nat) (h : 10 ≤ n) : (⟨(decL (n / 10)).toArray⟩ : ByteArray) ++ ⟨#[UInt8.ofNat (48 + n % 10)]⟩ = ⟨(decL n).toArray⟩ := by
  rw [decL_step n h]
  apply ByteArray.ext
  simp

set_option maxRecDepth 100000 in
set_option maxHeartbeats 1600000 in
theorem num_step (n : Nat) (w : World) (h : 10 ≤ n) (hn : n < 10000)
    (ih : ∀ w : World, Calls Tryd.prog 95 #[.int .i64 ((n : Int) / 10)] w fun e w' => e = .returned (.string ⟨(decL (n / 10)).toArray⟩) ∧ Below w.heap.size w w') :
    Calls Tryd.prog 95 #[.int .i64 (n : Nat)] w fun e w' => e = .returned (.string ⟨(decL n).toArray⟩) ∧ Below w.heap.size w w' := by
  have hcv := conv_one
  have hcv2 := conv_one_drew
  have IH := Lib.hid ih; clear ih
  obtain ⟨r, hr⟩ : ∃ r, r = n % 10 := ⟨_, rfl⟩
  have hr10 : r < 10 := by omega
  have et : ((n : Int)).tmod 10 = (r : Int) := by rw [Int.tmod_eq_emod_of_nonneg (by omega)]; omega
  have eq : IntKind.i64.wrap ((n : Int) / 10) = (n : Int) / 10 := IntWalk.i64_in _ (by omega)
  have ew : IntKind.i64.wrap (48 + (r : Int)) = 48 + (r : Int) := IntWalk.i64_in _ (by omega)
  have eu : IntKind.u8.wrap (48 + (r : Int)) = 48 + (r : Int) := IntWalk.u8_in _ (by omega)
  have Hr := Lib.hid hr; clear hr
  have hdl : (decL (n / 10)).length ≤ 5 := decL_len _ (by omega)
  go_enter Tryd.func95, Tryd.ntmps95
  go_wp2_with fail
  go_region_with (go_at_call 95; refine (IH.out _).mono ?_; rintro e w1 ⟨rfl, hb1⟩; try (have hcv1 := conv_box (built_drew hb1)))
  all_goals clear et eq ew eu hcv hcv2
  all_goals go_wp2_with fail
  all_goals go_ret
  all_goals (refine ⟨(?_ : Ending.returned (Value.string ((⟨(decL (n / 10)).toArray⟩ : ByteArray) ++ ⟨#[48 + UInt8.ofNat r]⟩)) = _), ?_⟩; · rw [← dec_join n h, ← Hr.out]; simp)
  all_goals first
    | exact Below.alloc (a := w) (below_of_drew hb1) (by have := hb1.size; exact this) _
    | exact below_of_alloc_drew hb1

theorem num_any (n : Nat) (hn : n < 10000) (w : World) : Calls Tryd.prog 95 #[.int .i64 (n : Nat)] w fun e w' => e = .returned (.string ⟨(decL n).toArray⟩) ∧ Below w.heap.size w w' := by
  induction n using Nat.strongRecOn generalizing w with
  | ind n ih =>
    by_cases h : n < 10
    · exact num_small n w h
    · exact num_step n w (by omega) hn fun w => ih (n / 10) (by omega) (by omega) w

end Go.Proofs.YtdjldhkmcmbiiaaDoor
/-
  The model's decimal text of a natural number.
-/
namespace Go.Proofs.YtdjldhkmcmbiiaaDoor
open Go.RowKit Num

theorem decL_step4 (q d : Nat) (hq : 0 < q) (hd : d < 10000) : decL (10000 * q + d) = decL q ++ [UInt8.ofNat (48 + d / 1000), UInt8.ofNat (48 + d / 100 % 10), UInt8.ofNat (48 + d / 10 % 10), UInt8.ofNat (48 + d % 10)] := by
  rw [decL_step (10000 * q + d) (by omega), decL_step ((10000 * q + d) / 10) (by omega), decL_step ((10000 * q + d) / 10 / 10) (by omega), decL_step ((10000 * q + d) / 10 / 10 / 10) (by omega)]
  rw [show (10000 * q + d) / 10 / 10 / 10 / 10 = q from by omega, show (10000 * q + d) / 10 / 10 / 10 % 10 = d / 1000 from by omega, show (10000 * q + d) / 10 / 10 % 10 = d / 100 % 10 from by omega,
    show (10000 * q + d) / 10 % 10 = d / 10 % 10 from by omega, show (10000 * q + d) % 10 = d % 10 from by omega]
  simp

/-- Zeros in front, up to four digits. -/
def pad4 (d : Nat) : List UInt8 := List.replicate (4 - (decL d).length) 48 ++ decL d

theorem pad4_eq (d : Nat) (hd : d < 10000) : pad4 d = [UInt8.ofNat (48 + d / 1000), UInt8.ofNat (48 + d / 100 % 10), UInt8.ofNat (48 + d / 10 % 10), UInt8.ofNat (48 + d % 10)] := by
  unfold pad4
  by_cases h1 : d < 10
  · rw [decL_small d h1, show d / 1000 = 0 from by omega, show d / 100 % 10 = 0 from by omega, show d / 10 % 10 = 0 from by omega, show d % 10 = d from by omega]
    rfl
  · by_cases h2 : d < 100
    · rw [decL_step d (by omega), decL_small (d / 10) (by omega), show d / 1000 = 0 from by omega, show d / 100 % 10 = 0 from by omega, show d / 10 % 10 = d / 10 from by omega]
      rfl
    · by_cases h3 : d < 1000
      · rw [decL_step d (by omega), decL_step (d / 10) (by omega), decL_small (d / 10 / 10) (by omega), show d / 1000 = 0 from by omega, show d / 100 % 10 = d / 10 / 10 from by omega]
        rfl
      · rw [decL_step d (by omega), decL_step (d / 10) (by omega), decL_step (d / 10 / 10) (by omega), decL_small (d / 10 / 10 / 10) (by omega), show d / 100 % 10 = d / 10 / 10 % 10 from by omega, show d / 1000 = d / 10 / 10 / 10 from by omega]
        rfl

theorem decL_pad (q d : Nat) (hq : 0 < q) (hd : d < 10000) : decL (10000 * q + d) = decL q ++ pad4 d := by
  rw [pad4_eq d hd, decL_step4 q d hq hd]

theorem decL_len4 (d : Nat) (hd : d < 10000) : 1 ≤ (decL d).length ∧ (decL d).length ≤ 4 := by
  have h := congrArg List.length (pad4_eq d hd)
  have h1 := decL_len d (by omega)
  unfold pad4 at h
  simp only [List.length_append, List.length_replicate, List.length_cons, List.length_nil] at h
  have h2 : 1 ≤ (decL d).length := by
    unfold decL
    split
    · simp
    · rw [List.length_map, List.length_reverse, length_digs, ln_pos 10 d (by omega) (by omega)]; omega
  omega

theorem decL_long (k n : Nat) (hk : n < 10000 ^ k) : (decL n).length ≤ 4 * k + 1 := by
  unfold decL
  split
  · simp
  · rw [List.length_map, List.length_reverse, length_digs]
    have : n < 10 ^ (4 * k) := by
      rw [Nat.pow_mul]; exact hk
    have := ln_le_of_lt 10 n (4 * k) (by omega) this
    omega

theorem top_dg (x k : Nat) (hk : ln 10000 x = k + 1) : dg 10000 x k = x / 10000 ^ k := by
  rw [dg_eq 10000 (by omega)]
  apply Nat.mod_eq_of_lt
  have := lt_pow_ln 10000 x (by omega)
  rw [hk, Nat.pow_succ] at this
  exact Nat.div_lt_of_lt_mul this

theorem div_top_pos (x k : Nat) (hk : k < ln 10000 x) : 0 < x / 10000 ^ k :=
  Nat.div_pos (top_le 10000 x k (by omega) hk) (Nat.pow_pos (by omega))

theorem div_next (x k : Nat) : x / 10000 ^ k = 10000 * (x / 10000 ^ (k + 1)) + dg 10000 x k := by
  rw [dg_eq 10000 (by omega), Nat.pow_succ, ← Nat.div_div_eq_div_mul]
  omega

theorem text_join (q d : Nat) (hq : 0 < q) (hd : d < 10000) : (⟨(decL q).toArray⟩ : ByteArray) ++ ((⟨#[48, 48, 48, 48]⟩ : ByteArray).extract (decL d).length 4 ++ ⟨(decL d).toArray⟩) = ⟨(decL (10000 * q + d)).toArray⟩ := by
  rw [decL_pad q d hq hd]
  apply ByteArray.ext
  have hl := decL_len4 d hd
  have e : ((⟨#[48, 48, 48, 48]⟩ : ByteArray).extract (decL d).length 4).data = (List.replicate (4 - (decL d).length) 48).toArray := by
    obtain ⟨h1, h2⟩ := hl
    generalize (decL d).length = L at *
    rcases (show L = 1 ∨ L = 2 ∨ L = 3 ∨ L = 4 from by omega) with rfl | rfl | rfl | rfl <;> rfl
  simp only [ByteArray.data_append, e, pad4]
  simp

set_option maxRecDepth 100000 in
set_option maxHeartbeats 1600000 in
theorem text_any (v : Value) (x : Nat) (w : World) (hv : Nums 3 .i64 10000 w v x) (hlx : ln 10000 x ≤ 1099511627776) :
    Calls Tryd.prog 61 #[v] w fun e w' => e = .returned (.string ⟨(decL x).toArray⟩) ∧ Below w.heap.size w w' := by
  obtain ⟨Aa, ca, rfl, hca, hca', hA⟩ := RowF.open hv
  clear hv
  have HA : Hid (RowA .i64 w Aa (ln 10000 x) (dg 10000 x)) := Lib.hid hA; clear hA
  obtain ⟨la, hla⟩ : ∃ la, la = ln 10000 x := ⟨_, rfl⟩
  rw [← hla] at HA hca hlx ⊢
  by_cases h0 : la = 0
  · have hx : x = 0 := (ln_eq_zero 10000 x (by omega)).1 (by omega)
    subst hx
    subst h0
    clear hla HA hlx
    go_enter Tryd.func61, Tryd.ntmps61
    go_wp2_with fail
    go_ret
    exact ⟨rfl, Below.refl _ _⟩
  · obtain ⟨k0, rfl⟩ : ∃ k0, la = k0 + 1 := ⟨la - 1, by omega⟩
    have hb0 : (((k0 + 1 : Nat) : Int) == 0) = false := by rw [beq_eq_false_iff_ne]; omega
    obtain ⟨ba, oa, rfl, hcA⟩ := HA.out.at_ (show k0 < k0 + 1 by omega)
    have hd0 := dg_lt 10000 x k0 (by omega)
    have htop := top_dg x k0 hla.symm
    have Htop := Lib.hid htop; clear htop
    have Hla := Lib.hid hla; clear hla
    clear h0
    go_enter Tryd.func61, Tryd.ntmps61
    go_wp2_with (go_at_call 95; refine (num_any _ hd0 _).mono ?_; rintro e w1 ⟨rfl, hb1⟩)
    have hs0 := hb1.size
    go_loopw [3, 4] (fun sv i wr => ∃ k : Nat, k ≤ k0 ∧ sv = .string ⟨(decL (x / 10000 ^ k)).toArray⟩ ∧ i = .int .i64 ((k : Int) - 1) ∧ Below w.heap.size w wr) (fun _ i _ => ((intOf i) + 1).toNat)
    case atStart => exact ⟨k0, by omega, by rw [Htop.out], by go_num, hb1⟩
    case round =>
      clear hb1 hs0
      obtain ⟨k, hk, rfl, rfl, hbel⟩ := hrel
      by_cases hk0 : 1 ≤ k
      · obtain ⟨q, rfl⟩ : ∃ q, k = q + 1 := ⟨k - 1, by omega⟩
        obtain ⟨_, _, hAe, hcQ⟩ := (HA.out.below hbel (Nat.le_refl _)).at_ (show q < k0 + 1 by omega)
        obtain ⟨rfl, rfl⟩ : ba = _ ∧ oa = _ := by injection hAe with hAe; injection hAe with h1 h2; exact ⟨h1, h2⟩
        clear hAe
        have hdq := dg_lt 10000 x q (by omega)
        have hnext := div_next x q
        have Hnext := Lib.hid hnext; clear hnext
        have hpos := div_top_pos x (q + 1) (by rw [← Hla.out]; omega)
        obtain ⟨D, hD⟩ : ∃ D, D = dg 10000 x q := ⟨_, rfl⟩
        rw [← hD] at hcQ hdq Hnext
        have HD := Lib.hid hD; clear hD
        obtain ⟨X, hX⟩ : ∃ X, X = x / 10000 ^ (q + 1) := ⟨_, rfl⟩
        rw [← hX] at hpos Hnext ⊢
        have hXl : (decL X).length ≤ 4398046511105 := by
          have h1 := decL_long _ X (lt_pow_ln 10000 X (by omega))
          have h2 : ln 10000 X ≤ ln 10000 x := ln_mono _ _ _ (by omega) (by rw [hX]; exact Nat.div_le_self _ _)
          rw [← Hla.out] at h2
          omega
        have HX := Lib.hid hX; clear hX
        have hl4 := decL_len4 D hdq
        obtain ⟨hl4a, hl4b⟩ := hl4
        go_wp2_with (go_at_call 95; refine (num_any _ hdq _).mono ?_; rintro e w1 ⟨rfl, hb1⟩)
        go_roundw
        case rel => exact ⟨q, by omega, by rw [Hnext.out]; exact congrArg Value.string (text_join X D hpos hdq), by go_num, hbel.trans (hb1.mono hbel.size)⟩
        case measure => simp [intOf]
      · obtain rfl : k = 0 := by omega
        go_wp2_with fail
        go_ret
        exact ⟨by simp, hbel⟩

end Go.Proofs.YtdjldhkmcmbiiaaDoor
