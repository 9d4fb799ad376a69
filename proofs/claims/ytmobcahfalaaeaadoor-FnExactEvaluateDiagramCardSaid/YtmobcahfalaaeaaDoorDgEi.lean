/-
  EvaluateDiagram: the program.
-/
import Derived.Test.YtmobcahfalaaeaaDoorDgEs
import Derived.Test.YtmobcahfalaaeaaDoorDgTi
import Derived.Test.YtmobcahfalaaeaaDoorShelf
import Derived.Shelf.Strings.SlTrimAscii
namespace Go.Proofs.YtmobcahfalaaeaaDoor
open Go.RowKit Num

theorem drop_twice {α : Type} (p : α → Bool) : ∀ l : List α, (l.dropWhile p).dropWhile p = l.dropWhile p
  | [] => rfl
  | a :: l => by
    rw [List.dropWhile_cons]
    cases h : p a with
    | true => rw [if_pos rfl]; exact drop_twice p l
    | false => rw [if_neg (by simp), List.dropWhile_cons, h, if_neg (by simp)]

theorem drop_nil {α : Type} (p : α → Bool) : ∀ l : List α, l.dropWhile p = [] ↔ ∀ x ∈ l, p x = true
  | [] => by simp
  | a :: l => by
    rw [List.dropWhile_cons]
    cases h : p a with
    | true => rw [if_pos rfl, drop_nil p l]; simp [h]
    | false => rw [if_neg (by simp)]; simp [h]

theorem trimS_nil (l cs : List UInt8) : Lib.trimS l cs = [] ↔ ∀ x ∈ l, cs.contains x = true := by
  rw [Lib.trimS, Lib.trimLeftS, drop_nil, Lib.trimRightS]
  constructor
  · intro h
    have h1 : ∀ x ∈ l.reverse.dropWhile (cs.contains ·), cs.contains x = true := fun x hx => h x (List.mem_reverse.2 hx)
    have h2 := (drop_nil (cs.contains ·) _).2 h1
    rw [drop_twice] at h2
    exact fun x hx => (drop_nil (cs.contains ·) _).1 h2 x (List.mem_reverse.2 hx)
  · intro h x hx
    exact h x (by
      have := List.mem_reverse.1 hx
      exact List.mem_reverse.1 ((List.dropWhile_sublist _).mem this))

theorem trim01_nil (s : ByteArray) : Lib.trimS s.data.toList [48, 49] = [] ↔ Bits s := by
  rw [trimS_nil]
  constructor
  · intro h j b hb
    have := h b (List.mem_of_getElem? hb)
    simpa using this
  · intro h x hx
    obtain ⟨j, hj⟩ := List.mem_iff_getElem?.1 hx
    have := h j x hj
    simpa using this

theorem trim01_any (s : ByteArray) (w : World) (hs : s.size ≤ 9223372036854775807) :
    Calls Tryd.prog 31 #[.string s, .string ⟨#[48, 49]⟩] w fun e w' => e = .returned (.string ⟨(Lib.trimS s.data.toList [48, 49]).toArray⟩) ∧ Below w.heap.size w w' :=
  Any.strings_Trim_laid Tryd.lays160 (by kernel_rfl) s ⟨#[48, 49]⟩ w hs (by decide) (ascii_of_all (by decide))

set_option maxRecDepth 100000 in
set_option maxHeartbeats 1600000 in
theorem areBits_any (s : ByteArray) (m : Int) (w : World) (hs : s.size ≤ 1048576) :
    Calls Tryd.prog 18 #[.string s, .int .i64 m] w (Yd (Bits s ∧ (s.size : Int) = m) w) := by
  have C2 : Hid (∀ W, _) := Lib.hid fun W => trim01_any s W (by omega)
  by_cases he : (s.size : Int) = m
  · have e1 : (((s.size : Nat) : Int) == m) = true := beq_iff_eq.2 he
    have HE := Lib.hid he
    clear he
    by_cases hb : Bits s
    · have HB := Lib.hid hb
      have ht := (trim01_nil s).2 hb
      clear hb
      rw [ht] at C2
      clear ht
      go_enter Tryd.func18, Tryd.ntmps18
      go_wp2_with (go_at_call 31; refine (C2.out _).mono ?_; rintro e w2 ⟨rfl, hb2⟩)
      go_ret
      exact Yd.yes ⟨HB.out, HE.out⟩ hb2
    · have HB := Lib.hid hb
      have ht : Lib.trimS s.data.toList [48, 49] ≠ [] := fun h => hb ((trim01_nil s).1 h)
      clear hb
      obtain ⟨a, b, hab⟩ := List.exists_cons_of_ne_nil ht
      rw [hab] at C2
      clear ht hab
      go_enter Tryd.func18, Tryd.ntmps18
      go_wp2_with (go_at_call 31; refine (C2.out _).mono ?_; rintro e w2 ⟨rfl, hb2⟩)
      go_ret
      exact Yd.no (fun k => HB.out k.1) hb2
  · have e1 : (((s.size : Nat) : Int) == m) = false := beq_eq_false_iff_ne.2 he
    have HE := Lib.hid he
    clear he C2
    go_enter Tryd.func18, Tryd.ntmps18
    go_wp2_with fail
    go_ret
    exact Yd.no (fun k => HE.out k.2) (Below.refl _ _)

set_option maxRecDepth 100000 in
set_option maxHeartbeats 3200000 in
theorem implEv_any (lo : Nat) (L ro : Int) (n c : Nat) (A0 : Option Addr) (f : Nat → Int) (s : ByteArray) (w : World) (hn : n ≤ 1048576) (hs : s.size ≤ 1048576) (h0 : IntsAt lo w A0 (n * 3) f) :
    Calls Tryd.prog 13 #[dgV L A0 n c ro, .string s] w fun e w' => e = .returned (.tuple #[.bool (evV L ro n f s), .bool (evO L ro n f s)]) ∧ Below w.heap.size w w' := by
  have hP := Box.new w 24 #[.int .i64 L, .slice A0 n c, .int .i64 ro]
  have hB := (Below.refl w.heap.size w).alloc (Nat.le_refl _) (.cells #[.int .i64 L, .slice A0 n c, .int .i64 ro] 24)
  obtain ⟨q0, q1, q2⟩ := hP.trio
  have H0 := Lib.hid h0; clear h0
  have CG : Hid (∀ W, Below w.heap.size w W → _) := Lib.hid fun W hW => implVaE_any lo L ro n c A0 f W hn (H0.out.below hW (Nat.le_refl _))
  have CB : Hid (∀ W, _) := Lib.hid fun W => areBits_any s L W hs
  unfold evV evO
  cases hv : vaB L ro n f with
  | false =>
    rw [hv] at CG
    rw [Bool.false_and, Bool.false_and]
    clear hv CB
    go_enter Tryd.func13, Tryd.ntmps13
    go_wp2_with (go_at_call 27; refine (CG.out _ hB).mono ?_; rintro e w1 ⟨rfl, hb⟩; clear q0 q1 q2; replace hP := hP.below hb hP.lt; replace hB := hB.trans (hb.mono hB.size); clear hb; obtain ⟨q0, q1, q2⟩ := hP.trio)
    go_ret2
    exact ⟨rfl, hB⟩
  | true =>
    rw [hv] at CG
    rw [Bool.true_and]
    by_cases hbt : Bits s ∧ (s.size : Int) = L
    · have HX := Lib.hid hbt
      have hvd := (vd_iff L ro n f).1 ((vaB_iff L ro n f).1 hv)
      obtain ⟨⟨hL, h4, hro, hsp⟩, _⟩ := hvd
      have er : ((ro.toNat : Nat) : Int) = ro := by omega
      have hse := evI_eq hbt.1 hbt.2
      have CT : Hid (∀ W, Below w.heap.size w W → _) := Lib.hid fun W hW => isTrueAt_any lo L ro.toNat n c (evI L s) A0 f W hsp hL.1 hL.2 hn (by omega) (H0.out.below hW (Nat.le_refl _))
      rw [er, ← hse] at CT
      rw [btB_yes hbt, Bool.true_and]
      generalize Dg.ev (ndl n f) L.toNat L.toNat ro.toNat (evI L s) = z at CT ⊢
      clear hse hbt hv er hsp hL h4 hro
      go_enter Tryd.func13, Tryd.ntmps13
      go_wp2_with (first
        | (go_at_call 27
           refine (CG.out _ hB).mono ?_
           rintro e w1 ⟨rfl, hb⟩
           clear q0 q1 q2
           replace hP := hP.below hb hP.lt
           replace hB := hB.trans (hb.mono hB.size)
           clear hb
           obtain ⟨q0, q1, q2⟩ := hP.trio)
        | (go_at_call 18
           refine (CB.out _).mono ?_
           rintro e w2 ⟨y, rfl, hy, hb⟩
           obtain rfl : y = true := hy.out.2 HX.out
           clear q0 q1 q2 hy
           replace hP := hP.below hb hP.lt
           replace hB := hB.trans (hb.mono hB.size)
           clear hb
           obtain ⟨q0, q1, q2⟩ := hP.trio)
        | (go_at_call 28
           refine (CT.out _ hB).mono ?_
           rintro e w3 ⟨rfl, hb⟩
           clear q0 q1 q2
           replace hB := hB.trans (hb.mono hB.size)
           clear hb))
      go_ret2
      exact ⟨rfl, hB⟩
    · have HX := Lib.hid hbt
      rw [btB_no hbt, Bool.false_and]
      clear hbt hv
      go_enter Tryd.func13, Tryd.ntmps13
      go_wp2_with (first
        | (go_at_call 27
           refine (CG.out _ hB).mono ?_
           rintro e w1 ⟨rfl, hb⟩
           clear q0 q1 q2
           replace hP := hP.below hb hP.lt
           replace hB := hB.trans (hb.mono hB.size)
           clear hb
           obtain ⟨q0, q1, q2⟩ := hP.trio)
        | (go_at_call 18
           refine (CB.out _).mono ?_
           rintro e w2 ⟨y, rfl, hy, hb⟩
           obtain rfl : y = false := (by cases y with | false => rfl | true => exact (HX.out (hy.out.1 rfl)).elim)
           clear q0 q1 q2 hy
           replace hP := hP.below hb hP.lt
           replace hB := hB.trans (hb.mono hB.size)
           clear hb
           obtain ⟨q0, q1, q2⟩ := hP.trio))
      go_ret2
      exact ⟨rfl, hB⟩

end Go.Proofs.YtmobcahfalaaeaaDoor
