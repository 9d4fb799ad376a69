/-
  The library's functions that the program's form of a truth table calls.
-/
import Derived.Test.YtfeejdbkolpjoaaDoorDnB
import Derived.Test.YtfeejdbkolpjoaaDoorShelf
import Derived.Shelf.Strings.SlTrimAscii
import Derived.Shelf.Spec.TrailingZeros
import Derived.Lib.TrailingZeros
import Derived.Laws.Bits64b
namespace Go.Proofs.YtfeejdbkolpjoaaDoor
open Go.RowKit Num

/-- x is a power of two, up to 2^10. -/
def pw (x : Nat) : Bool := (List.range 11).any fun n => x == 2 ^ n
theorem pw_iff (x : Nat) : pw x = true ↔ ∃ n, n ≤ 10 ∧ x = 2 ^ n := by
  rw [pw, List.any_eq_true]
  constructor
  · rintro ⟨n, h1, h2⟩
    exact ⟨n, by have := List.mem_range.1 h1; omega, eq_of_beq h2⟩
  · rintro ⟨n, h1, h2⟩
    exact ⟨n, List.mem_range.2 (by omega), by rw [h2]; exact beq_self_eq_true _⟩

set_option maxRecDepth 100000 in
set_option maxHeartbeats 1600000 in
theorem ones64_any (x : Nat) (w : World) (hx : x ≤ 1024) :
    Calls Tryd.prog 24 #[.int .u64 (x : Nat)] w fun e w' => (∃ z : Int, e = .returned (.int .i64 z) ∧ Hid (z = 1 ↔ ∃ n, n ≤ 10 ∧ x = 2 ^ n)) ∧ w' = w := by
  go_enter Tryd.func24, Tryd.ntmps24
  go_wp2_with fail
  go_ret
  refine ⟨⟨_, rfl, Lib.hid ?_⟩, rfl⟩
  rw [← pw_iff]
  have h := Nat.lt_succ_of_le hx
  clear hx
  revert x
  exact of_decide_eq_true (by kernel_rfl)

set_option maxRecDepth 100000 in
theorem ones_any (x : Nat) (w : World) (hx : x ≤ 1024) :
    Calls Tryd.prog 14 #[.int .u64 (x : Nat)] w fun e w' => (∃ z : Int, e = .returned (.int .i64 z) ∧ Hid (z = 1 ↔ ∃ n, n ≤ 10 ∧ x = 2 ^ n)) ∧ w' = w := by
  have C := Lib.hid (ones64_any x w hx)
  have wx : IntKind.u64.wrap (x : Int) = (x : Int) := IntWalk.u64_in _ (by omega)
  go_enter Tryd.func14, Tryd.ntmps14
  go_wp2_with (go_at_call 24; refine C.out.mono ?_; rintro e w1 ⟨⟨z, rfl, hz⟩, rfl⟩)
  go_ret
  exact ⟨⟨z, rfl, hz⟩, rfl⟩

theorem drop_twice {α : Type} (p : α → Bool) : ∀ l : List α, (l.dropWhile p).dropWhile p = l.dropWhile p
  | [] => rfl
  | a :: l => by
    rw [List.dropWhile_cons]
    cases h : p a with
    | true => rw [if_pos rfl]; exact drop_twice p l
    | false => rw [if_neg (by simp), List.dropWhile_cons, h, if_neg (by simp)]

theorem drop_nil {α : Type} (p : α → Bool) : ∀ l : List α, l.dropWhile p = [] ↔ ∀ x ∈ l, p x = true
  | [] => by simp
  | a :: l => by
    rw [List.dropWhile_cons]
    cases h : p a with
    | true => rw [if_pos rfl, drop_nil p l]; simp [h]
    | false => rw [if_neg (by simp)]; simp [h]

theorem trimS_nil (l cs : List UInt8) : Lib.trimS l cs = [] ↔ ∀ x ∈ l, cs.contains x = true := by
  rw [Lib.trimS, Lib.trimLeftS, drop_nil, Lib.trimRightS]
  constructor
  · intro h
    have h1 : ∀ x ∈ l.reverse.dropWhile (cs.contains ·), cs.contains x = true := fun x hx => h x (List.mem_reverse.2 hx)
    have h2 := (drop_nil (cs.contains ·) _).2 h1
    rw [drop_twice] at h2
    exact fun x hx => (drop_nil (cs.contains ·) _).1 h2 x (List.mem_reverse.2 hx)
  · intro h x hx
    exact h x (by
      have := List.mem_reverse.1 hx
      exact List.mem_reverse.1 ((List.dropWhile_sublist _).mem this))

theorem trim01_nil (s : ByteArray) : Lib.trimS s.data.toList [48, 49] = [] ↔ Bits s := by
  rw [trimS_nil]
  constructor
  · intro h j b hb
    have := h b (List.mem_of_getElem? hb)
    simpa using this
  · intro h x hx
    obtain ⟨j, hj⟩ := List.mem_iff_getElem?.1 hx
    have := h j x hj
    simpa using this

theorem trim01_any (s : ByteArray) (w : World) (hs : s.size ≤ 9223372036854775807) :
    Calls Tryd.prog 25 #[.string s, .string ⟨#[48, 49]⟩] w fun e w' => e = .returned (.string ⟨(Lib.trimS s.data.toList [48, 49]).toArray⟩) ∧ Below w.heap.size w w' :=
  Any.strings_Trim_laid Tryd.lays160 (by kernel_rfl) s ⟨#[48, 49]⟩ w hs (by decide) (ascii_of_all (by decide))

theorem clone_any (s : ByteArray) (w : World) (hs : s.size ≤ 281474976710656) :
    Calls Tryd.prog 9 #[.string s] w fun e w' => e = .returned (.string s) ∧ Below w.heap.size w w' := by
  have C := Lib.hid (Tryd.stringslite_Clone s w hs)
  go_enter Tryd.func9, Tryd.ntmps9
  go_wp2_with (go_at_call 16; refine C.out.mono ?_; rintro e w1 ⟨rfl, hb⟩)
  go_ret
  exact ⟨rfl, hb⟩

set_option maxRecDepth 100000 in
set_option maxHeartbeats 1600000 in
theorem areBits_any (s : ByteArray) (m : Int) (w : World) (hs : s.size ≤ 1048576) :
    Calls Tryd.prog 15 #[.string s, .int .i64 m] w (Yd (Bits s ∧ (s.size : Int) = m) w) := by
  have C2 : Hid (∀ W, _) := Lib.hid fun W => trim01_any s W (by omega)
  by_cases he : (s.size : Int) = m
  · have e1 : (((s.size : Nat) : Int) == m) = true := beq_iff_eq.2 he
    have HE := Lib.hid he
    clear he
    by_cases hb : Bits s
    · have HB := Lib.hid hb
      have ht := (trim01_nil s).2 hb
      clear hb
      rw [ht] at C2
      clear ht
      go_enter Tryd.func15, Tryd.ntmps15
      go_wp2_with (go_at_call 25; refine (C2.out _).mono ?_; rintro e w2 ⟨rfl, hb2⟩)
      go_ret
      exact Yd.yes ⟨HB.out, HE.out⟩ hb2
    · have HB := Lib.hid hb
      have ht : Lib.trimS s.data.toList [48, 49] ≠ [] := fun h => hb ((trim01_nil s).1 h)
      clear hb
      obtain ⟨a, b, hab⟩ := List.exists_cons_of_ne_nil ht
      rw [hab] at C2
      clear ht hab
      go_enter Tryd.func15, Tryd.ntmps15
      go_wp2_with (go_at_call 25; refine (C2.out _).mono ?_; rintro e w2 ⟨rfl, hb2⟩)
      go_ret
      exact Yd.no (fun k => HB.out k.1) hb2
  · have e1 : (((s.size : Nat) : Int) == m) = false := beq_eq_false_iff_ne.2 he
    have HE := Lib.hid he
    clear he C2
    go_enter Tryd.func15, Tryd.ntmps15
    go_wp2_with fail
    go_ret
    exact Yd.no (fun k => HE.out k.2) (Below.refl _ _)

set_option maxRecDepth 100000 in
set_option maxHeartbeats 1600000 in
theorem isTable_any (s : ByteArray) (w : World) (hs : s.size ≤ 1048576) :
    Calls Tryd.prog 8 #[.string s] w (Yd (∃ n, Tb s n) w) := by
  have C1 : Hid (∀ W, s.size ≤ 1024 → _) := Lib.hid fun W h => ones_any s.size W h
  have C2 : Hid (∀ W, _) := Lib.hid fun W => areBits_any s (s.size : Nat) W hs
  have wx : IntKind.u64.wrap (s.size : Int) = (s.size : Int) := IntWalk.u64_in _ (by omega)
  by_cases h1 : s.size ≤ 1024
  · have h1' : (s.size : Int) ≤ 1024 := by omega
    by_cases hp : ∃ n, n ≤ 10 ∧ s.size = 2 ^ n
    · have HP := Lib.hid hp
      clear hp
      by_cases hb : Bits s
      · have HB := Lib.hid hb
        clear hb
        go_enter Tryd.func8, Tryd.ntmps8
        go_wp2_with (first
          | (go_at_call 14; refine (C1.out _ h1).mono ?_; rintro e w1 ⟨⟨z, rfl, hz⟩, rfl⟩; obtain rfl : z = 1 := hz.out.2 HP.out)
          | (go_at_call 15; refine (C2.out _).mono ?_; rintro e w2 ⟨y, rfl, hy, hb2⟩; obtain rfl : y = true := hy.out.2 (by simp [HB.out])))
        go_ret
        exact Yd.yes (by obtain ⟨n, a, b⟩ := HP.out; exact ⟨n, a, b, HB.out⟩) hb2
      · have HB := Lib.hid hb
        clear hb
        go_enter Tryd.func8, Tryd.ntmps8
        go_wp2_with (first
          | (go_at_call 14; refine (C1.out _ h1).mono ?_; rintro e w1 ⟨⟨z, rfl, hz⟩, rfl⟩; obtain rfl : z = 1 := hz.out.2 HP.out)
          | (go_at_call 15; refine (C2.out _).mono ?_; rintro e w2 ⟨y, rfl, hy, hb2⟩; obtain rfl : y = false := (by cases y with | false => rfl | true => exact (HB.out (hy.out.1 rfl).1).elim)))
        go_ret
        exact Yd.no (fun ⟨n, k⟩ => HB.out k.2.2) hb2
    · have HP := Lib.hid hp
      clear hp
      go_enter Tryd.func8, Tryd.ntmps8
      go_wp2_with (go_at_call 14; refine (C1.out _ h1).mono ?_; rintro e w1 ⟨⟨z, rfl, hz⟩, rfl⟩; have f1 : (z == 1) = false := (by rw [beq_eq_false_iff_ne]; exact fun e => HP.out (hz.out.1 e)))
      go_ret
      exact Yd.no (fun ⟨n, k⟩ => HP.out ⟨n, k.1, k.2.1⟩) (Below.refl _ _)
  · have h1' : ¬ (s.size : Int) ≤ 1024 := by omega
    have HP : Hid (¬ ∃ n, Tb s n) := Lib.hid fun ⟨n, k⟩ => h1 (by rw [k.2.1]; exact Nat.le_trans (Nat.pow_le_pow_right (by omega) k.1) (by decide))
    go_enter Tryd.func8, Tryd.ntmps8
    go_wp2_with fail
    go_ret
    exact Yd.no HP.out (Below.refl _ _)

end Go.Proofs.YtfeejdbkolpjoaaDoor
