/-
  strings.ContainsRune at the symbols and the separators.
-/
import Derived.Test.YtcjaknojeaoffaaDoorTkA
import Derived.WalkMore
import Derived.BigQuiet
namespace Go.Proofs.YtcjaknojeaoffaaDoor
open Go.RowKit Num

/-- The symbols and the separators, as the program's text lays them. -/
def setS : ByteArray := ⟨#[40, 41, 123, 125, 58, 43, 45, 42, 61, 60, 32, 10]⟩
/-- r is one of them. -/
def inSet (r : Int) : Bool := decide (r < 128) && setS.data.toList.contains r.toNat.toUInt8

theorem inSet_low : ∀ n, n < 128 → decide (0 ≤ Lib.indexByte setS.data.toList (UInt8.ofNat n)) = setS.data.toList.contains (UInt8.ofNat n) := of_decide_eq_true (by kernel_rfl)

theorem setS_low : ∀ k, (hk : k < 12) → ∃ h : k < setS.size, (setS[k]'h).toNat < 128 := fun k hk => by
  match k, hk with
  | 0, _ => exact ⟨by decide, by decide⟩
  | 1, _ => exact ⟨by decide, by decide⟩
  | 2, _ => exact ⟨by decide, by decide⟩
  | 3, _ => exact ⟨by decide, by decide⟩
  | 4, _ => exact ⟨by decide, by decide⟩
  | 5, _ => exact ⟨by decide, by decide⟩
  | 6, _ => exact ⟨by decide, by decide⟩
  | 7, _ => exact ⟨by decide, by decide⟩
  | 8, _ => exact ⟨by decide, by decide⟩
  | 9, _ => exact ⟨by decide, by decide⟩
  | 10, _ => exact ⟨by decide, by decide⟩
  | 11, _ => exact ⟨by decide, by decide⟩

theorem setS_mem (b : UInt8) (h : b ∈ setS.data.toList) : b.toNat < 128 := by
  have : ∀ b ∈ setS.data.toList, b.toNat < 128 := by decide
  exact this b h

theorem indexByte_absent : ∀ (l : List UInt8) (c : UInt8), (∀ b ∈ l, b ≠ c) → Lib.indexByte l c = -1
  | [], _, _ => rfl
  | b :: l, c, h => by
    rw [Lib.indexByte, indexByte_absent l c (fun x hx => h x (List.mem_cons_of_mem _ hx))]
    have : (b == c) = false := beq_eq_false_iff_ne.2 (h b (List.mem_cons_self ..))
    rw [this]
    rfl
/-- The first place of a byte that is not ASCII. -/
theorem index_high (a e : Nat) (c : UInt8) (hc : 128 ≤ c.toNat) : Lib.indexByte ((setS.extract a e).data.toList) c = -1 :=
  indexByte_absent _ _ fun b hb e => by
    have := setS_mem b (mem_extract hb)
    rw [e] at this
    omega
theorem valid_eq (r : Int) : Lib.validRune r = Utf8.valid r := by
  rw [validRune_eq, Lib.validRune, validRune]

set_option maxRecDepth 100000 in
set_option maxHeartbeats 3200000 in
/-- At the error rune. -/
theorem indexRune_err (w : World) :
    Calls Tryd.prog 50 #[.string setS, .int .i32 65533] w fun e w' => e = .returned (.int .i64 (-1)) ∧ Below w.heap.size w w' := by
  have hsz : setS.size = 12 := rfl
  obtain ⟨S, hS⟩ : ∃ S, S = setS := ⟨_, rfl⟩
  have HL : Hid (∀ k, (hk : k < S.size) → (S[k]'hk).toNat < 128) := Lib.hid (by
    subst hS
    intro k hk
    obtain ⟨h, e⟩ := setS_low k hk
    exact e)
  rw [← hS] at hsz ⊢
  clear hS
  go_enter Tryd.func50, Tryd.ntmps50
  go_wp2_with fail
  go_loopg [] 12 (fun q wr => ∃ k : Nat, k + q = 12 ∧ wr = w.iter S k)
  case atStart => exact ⟨0, by omega, rfl⟩
  case round =>
    obtain ⟨k, hk, rfl⟩ := hrel
    by_cases hk0 : k < 12
    · have hlt : k < S.size := by omega
      have ha := HL.out k hlt
      have hnx := fun ty => run_next_ascii (P := Tryd.prog) w S k ty hlt ha
      have f1 : (((S[k]'hlt).toNat : Int) == 65533) = false := by rw [beq_eq_false_iff_ne]; omega
      clear ha
      go_wp2_with fail
      go_roundg (gk - 1)
      case rel => exact ⟨k + 1, by omega, rfl⟩
      case measure => omega
    · obtain rfl : k = 12 := by omega
      have hnx := fun ty => run_next_end (P := Tryd.prog) w S 12 ty (by omega)
      go_wp2_with fail
      go_ret
      exact ⟨rfl, (Below.refl _ w).alloc (Nat.le_refl _) _⟩

set_option maxRecDepth 100000 in
set_option maxHeartbeats 3200000 in
/-- At a rune of more than one byte. -/
theorem indexRune_high (r : Int) (w : World) (h1 : 128 ≤ r) (h2 : r ≠ 65533) :
    Calls Tryd.prog 50 #[.string setS, .int .i32 r] w fun e w' => e = .returned (.int .i64 (-1)) ∧ Below w.heap.size w w' := by
  have hsz : setS.size = 12 := rfl
  have CV : Hid (∀ W, _) := Lib.hid fun W => Tryd.utf8_ValidRune r W
  have f1 : (r == 65533) = false := by rw [beq_eq_false_iff_ne]; exact h2
  cases hv : Utf8.valid r with
  | false =>
    rw [show Lib.validRune r = false by rw [valid_eq, hv]] at CV
    go_enter Tryd.func50, Tryd.ntmps50
    go_wp2_with (go_at_call 57; refine (CV.out _).mono ?_; rintro e w1 ⟨rfl, rfl⟩)
    go_ret
    exact ⟨rfl, Below.refl _ _⟩
  | true =>
    rw [show Lib.validRune r = true by rw [valid_eq, hv]] at CV
    obtain ⟨t1, t2, t3⟩ := encode_facts r hv h1
    obtain ⟨t, ht⟩ : ∃ t, Utf8.encode r = t := ⟨_, rfl⟩
    rw [ht] at t1 t2 t3
    obtain ⟨m, hm⟩ : ∃ m, m = t.size - 1 := ⟨_, rfl⟩
    have hm3 : 1 ≤ m ∧ m ≤ 3 := by omega
    have hlt : m < t.size := by omega
    have hls : m < setS.size := by rw [hsz]; omega
    have wl : IntKind.i64.wrap ((t.size : Int) - 1) = (m : Int) := by rw [IntWalk.i64_in _ (by omega)]; omega
    have wm : IntKind.i64.wrap ((m : Int) + 1) = (m : Int) + 1 := IntWalk.i64_in _ (by omega)
    have hsl : ∀ W, (Instr.slice 9 (.string setS) (some (.int .i64 ((m : Int) + 1))) none none).run Tryd.prog W = .ok (.string (setS.extract (m + 1) 12)) W := fun W => by
      rw [run_slice_string_l (P := Tryd.prog) W 9 setS Tryd.underlying9 .i64 ((m : Int) + 1) (by omega) (by rw [hsz]; omega)]
      rw [show ((m : Int) + 1).toNat = m + 1 by omega, hsz]
    have hhi : 128 ≤ (t[m]'hlt).toNat := by
      have := t3 (by omega)
      simpa [← hm] using this
    have f2 : (((setS[m]'hls).toNat : Int) != ((t[m]'hlt).toNat : Int)) = true := by
      rw [bne_iff_ne]
      obtain ⟨_, h⟩ := setS_low m (by omega)
      omega
    have CI : Hid (∀ W, Calls Tryd.prog 56 #[.string (setS.extract (m + 1) 12), .int .u8 ((t[m]'hlt).toNat : Int)] W fun e w' => e = .returned (.int .i64 (-1)) ∧ W = w') := Lib.hid fun W => (Tryd.strings_IndexByte _ _ W).mono fun e w' ⟨h, h'⟩ => ⟨by
      rw [h]
      have e1 : ((t[m]'hlt).toNat : Int).toNat.toUInt8 = t[m]'hlt := by simp
      rw [e1, index_high _ _ _ hhi], h'.symm⟩
    clear t1 t2 t3 hm hhi hv h2
    go_enter Tryd.func50, Tryd.ntmps50
    go_wp2_with (go_at_call 57; refine (CV.out _).mono ?_; rintro e w1 ⟨rfl, rfl⟩)
    go_step3
    go_wp2_with fail
    refine wp_loop_rounds 1 ?_
    rw [rounds_succ]
    go_wp2_with fail
    go_step3
    go_upto_region 6 with fail
    go_quiet (fail)
    go_upto_region 7 with fail
    go_quiet ((go_at_call 56; first | exact quiet_left (CI.out _) | exact quiet_add_left (CI.out _)))
    go_wp2_with fail
    rw [Exit.noGoto_ret]
    go_wp2_with fail
    rw [Exit.noGoto_ret]
    go_ret
    exact ⟨rfl, by first | exact below_drewN _ (Below.refl _ _) | exact Below.refl _ _⟩

set_option maxRecDepth 100000 in
theorem containsRune_any (r : Int) (w : World) (h0 : 0 ≤ r) :
    Calls Tryd.prog 35 #[.string setS, .int .i32 r] w fun e w' => e = .returned (.bool (inSet r)) ∧ Below w.heap.size w w' := by
  by_cases h1 : r < 128
  · refine (Tryd.strings_ContainsRune_ascii setS r w h0 h1).mono fun e w' ⟨h, h'⟩ => ⟨?_, h' ▸ Below.refl _ _⟩
    rw [h, inSet, decide_eq_true h1, Bool.true_and]
    have := inSet_low r.toNat (by omega)
    exact congrArg (fun b => Ending.returned (.bool b)) this
  · have C : Hid (Calls Tryd.prog 50 #[.string setS, .int .i32 r] w fun e w' => e = .returned (.int .i64 (-1)) ∧ Below w.heap.size w w') := Lib.hid (by
      by_cases h2 : r = 65533
      · rw [h2]; exact indexRune_err w
      · exact indexRune_high r w (by omega) h2)
    have HI : Hid (inSet r = false) := Lib.hid (by rw [inSet, decide_eq_false h1, Bool.false_and])
    go_enter Tryd.func35, Tryd.ntmps35
    go_wp2_with (go_at_call 50; refine C.out.mono ?_; rintro e w1 ⟨rfl, hb⟩)
    go_ret
    exact ⟨by rw [HI.out]; rfl, hb⟩

end Go.Proofs.YtcjaknojeaoffaaDoor
