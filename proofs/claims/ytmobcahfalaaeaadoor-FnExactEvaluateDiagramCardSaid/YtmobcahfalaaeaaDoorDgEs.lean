/-
  EvaluateDiagram: bits as an assignment; the model.
-/
import Derived.Test.YtmobcahfalaaeaaDoorDgV
namespace Go.Proofs.YtmobcahfalaaeaaDoor
open Go.RowKit Num

theorem bin_add : ∀ n i c, bin n (i + c * 2 ^ n) = bin n i
  | 0, _, _ => rfl
  | n + 1, i, c => by
    rw [bin, bin, show i + c * 2 ^ (n + 1) = i + (2 * c) * 2 ^ n by rw [Nat.pow_succ, Nat.mul_comm 2 c, Nat.mul_assoc, Nat.mul_comm (2 ^ n) 2], bin_add n i (2 * c), Nat.add_mul_div_right _ _ (Nat.pow_pos (by omega))]
    congr 3
    omega

theorem bin_of : ∀ l : List UInt8, (∀ b ∈ l, b = 48 ∨ b = 49) → ∃ i, bin l.length i = l
  | [], _ => ⟨0, rfl⟩
  | b :: t, h => by
    obtain ⟨i, hi⟩ := bin_of t fun x hx => h x (List.mem_cons_of_mem _ hx)
    have hp : 0 < 2 ^ t.length := Nat.pow_pos (by omega)
    have hm : bin t.length (i % 2 ^ t.length) = t := by
      have := bin_add t.length (i % 2 ^ t.length) (i / 2 ^ t.length)
      rw [Nat.mul_comm, Nat.mod_add_div, hi] at this
      exact this.symm
    rcases h b List.mem_cons_self with rfl | rfl
    · refine ⟨i % 2 ^ t.length, ?_⟩
      rw [List.length_cons, bin, hm, Nat.div_eq_of_lt (Nat.mod_lt _ hp)]
      rfl
    · refine ⟨i % 2 ^ t.length + 1 * 2 ^ t.length, ?_⟩
      rw [List.length_cons, bin, bin_add, hm, Nat.add_mul_div_right _ _ hp, Nat.div_eq_of_lt (Nat.mod_lt _ hp)]
      rfl

/-- Bits are an assignment. -/
theorem bits_bin {s : ByteArray} {n : Nat} (h : Bits s) (hn : s.size = n) : ∃ i, s = ⟨(bin n i).toArray⟩ := by
  obtain ⟨i, hi⟩ := bin_of s.data.toList fun b hb => by
    obtain ⟨j, hj⟩ := List.mem_iff_getElem?.1 hb
    exact h j b hj
  refine ⟨i, ?_⟩
  have hl : s.data.toList.length = n := by rw [← hn]; rfl
  rw [hl] at hi
  rw [hi]

open Classical in
/-- Whether a text is an assignment of L variables. -/
noncomputable def btB (L : Int) (s : ByteArray) : Bool := decide (Bits s ∧ (s.size : Int) = L)
theorem btB_yes {L : Int} {s : ByteArray} (h : Bits s ∧ (s.size : Int) = L) : btB L s = true := by unfold btB; simp [h]
theorem btB_no {L : Int} {s : ByteArray} (h : ¬ (Bits s ∧ (s.size : Int) = L)) : btB L s = false := by unfold btB; simp [h]
/-- The answer: a bool and whether there is one. -/
noncomputable def evO (L ro : Int) (n : Nat) (f : Nat → Int) (s : ByteArray) : Bool := vaB L ro n f && btB L s
open Classical in
noncomputable def evI (L : Int) (s : ByteArray) : Nat := if h : ∃ i, s = ⟨(bin L.toNat i).toArray⟩ then h.choose else 0
noncomputable def evV (L ro : Int) (n : Nat) (f : Nat → Int) (s : ByteArray) : Bool := evO L ro n f s && Dg.ev (ndl n f) L.toNat L.toNat ro.toNat (evI L s)

theorem evI_eq {L : Int} {s : ByteArray} (h : Bits s) (hn : (s.size : Int) = L) : s = ⟨(bin L.toNat (evI L s)).toArray⟩ := by
  have hx := bits_bin (n := L.toNat) h (by omega)
  unfold evI
  rw [dif_pos hx]
  exact hx.choose_spec

set_option maxRecDepth 100000 in
set_option maxHeartbeats 1600000 in
theorem specBitsC_any (s : ByteArray) (m : Int) (w : World) (hs : s.size ≤ 1048576) :
    Calls Tryd.prog 15 #[.string s, .int .i64 m] w (Yd (Bits s ∧ (s.size : Int) = m) w) := by
  go_enter Tryd.func15, Tryd.ntmps15
  go_wp2_with fail
  go_loopg [5] s.size (fun q iv wr => ∃ k : Nat, k + q = s.size ∧ iv = .int .i64 (k : Nat) ∧ Hid (∀ (j : Nat) (b : UInt8), j < k → s.data.toList[j]? = some b → b = 48 ∨ b = 49) ∧ wr = w)
  case atStart => exact ⟨0, by omega, rfl, Lib.hid fun j b h => by omega, rfl⟩
  case round =>
    obtain ⟨k, hk, rfl, hq, rfl⟩ := hrel
    by_cases hk0 : k < s.size
    · have hb := Lib.hid (byte_at hk0)
      obtain ⟨b, hbb⟩ : ∃ b, b = s[k]'hk0 := ⟨_, rfl⟩
      by_cases h0 : b = 48
      · have f1 : (((s[k]'hk0).toNat : Int) != 48) = false := by rw [← hbb, h0]; rfl
        have HE := Lib.hid h0
        have HB := Lib.hid hbb
        clear h0 hbb
        go_wp2_with fail
        go_roundg (gk - 1)
        case rel => exact ⟨k + 1, by omega, by go_num, Lib.hid fun j c hj hc => by
          by_cases hjk : j < k
          · exact hq.out j c hjk hc
          · obtain rfl : j = k := by omega
            rw [hb.out] at hc
            cases hc
            rw [← HB.out]
            exact .inl HE.out, rfl⟩
        case measure => omega
      · have f1 : (((s[k]'hk0).toNat : Int) != 48) = true := by
          rw [← hbb]
          rw [bne_iff_ne]
          intro e
          exact h0 (UInt8.toNat_inj.1 (by have : b.toNat = 48 := by omega
                                          exact this))
        by_cases h1 : b = 49
        · have f2 : (((s[k]'hk0).toNat : Int) != 49) = false := by rw [← hbb, h1]; rfl
          have HE := Lib.hid h1
          have HB := Lib.hid hbb
          clear h0 h1 hbb
          go_wp2_with fail
          go_roundg (gk - 1)
          case rel => exact ⟨k + 1, by omega, by go_num, Lib.hid fun j c hj hc => by
            by_cases hjk : j < k
            · exact hq.out j c hjk hc
            · obtain rfl : j = k := by omega
              rw [hb.out] at hc
              cases hc
              rw [← HB.out]
              exact .inr HE.out, rfl⟩
          case measure => omega
        · have f2 : (((s[k]'hk0).toNat : Int) != 49) = true := by
            rw [← hbb]
            rw [bne_iff_ne]
            intro e
            exact h1 (UInt8.toNat_inj.1 (by have : b.toNat = 49 := by omega
                                            exact this))
          have HE := Lib.hid (show ¬ Bits s from fun h => by
            rcases h k _ hb.out with e | e
            · exact h0 (hbb.trans e)
            · exact h1 (hbb.trans e))
          clear h0 h1 hbb
          go_wp2_with fail
          go_ret
          exact Yd.no (fun h => HE.out h.1) (Below.refl _ _)
    · obtain rfl : k = s.size := by omega
      go_wp2_with fail
      go_ret
      exact ⟨_, rfl, Lib.hid (by
        rw [beq_iff_eq]
        exact ⟨fun h => ⟨fun j b hj => hq.out j b (by
          have := (List.getElem?_eq_some_iff.1 hj).1
          simpa using this) hj, h⟩, fun h => h.2⟩), Below.refl _ _⟩

set_option maxRecDepth 100000 in
set_option maxHeartbeats 3200000 in
theorem specEv_any (lo : Nat) (L ro : Int) (n c : Nat) (A0 : Option Addr) (f : Nat → Int) (s : ByteArray) (w : World) (hn : n ≤ 1048576) (hs : s.size ≤ 1048576) (h0 : IntsAt lo w A0 (n * 3) f) :
    Calls Tryd.prog 11 #[dgV L A0 n c ro, .string s] w fun e w' => e = .returned (.tuple #[.bool (evV L ro n f s), .bool (evO L ro n f s)]) ∧ Below w.heap.size w w' := by
  have hP := Box.new w 24 #[.int .i64 L, .slice A0 n c, .int .i64 ro]
  have hB := (Below.refl w.heap.size w).alloc (Nat.le_refl _) (.cells #[.int .i64 L, .slice A0 n c, .int .i64 ro] 24)
  obtain ⟨q0, q1, q2⟩ := hP.trio
  have H0 := Lib.hid h0; clear h0
  have CG : Hid (∀ W, Below w.heap.size w W → _) := Lib.hid fun W hW => specGdE_any lo L ro n c A0 f W hn (H0.out.below hW (Nat.le_refl _))
  have CB : Hid (∀ W, _) := Lib.hid fun W => specBitsC_any s L W hs
  unfold evV evO
  cases hv : vaB L ro n f with
  | false =>
    rw [hv] at CG
    rw [Bool.false_and, Bool.false_and]
    clear hv CB
    go_enter Tryd.func11, Tryd.ntmps11
    go_wp2_with (go_at_call 24; refine (CG.out _ hB).mono ?_; rintro e w1 ⟨rfl, hb⟩; clear q0 q1 q2; replace hP := hP.below hb hP.lt; replace hB := hB.trans (hb.mono hB.size); clear hb; obtain ⟨q0, q1, q2⟩ := hP.trio)
    go_ret2
    exact ⟨rfl, hB⟩
  | true =>
    rw [hv] at CG
    rw [Bool.true_and]
    by_cases hbt : Bits s ∧ (s.size : Int) = L
    · have HX := Lib.hid hbt
      have hvd := (vd_iff L ro n f).1 ((vaB_iff L ro n f).1 hv)
      obtain ⟨⟨hL, h4, hro, hsp⟩, _⟩ := hvd
      have er : ((ro.toNat : Nat) : Int) = ro := by omega
      have hse := evI_eq hbt.1 hbt.2
      have CT : Hid (∀ W, Below w.heap.size w W → _) := Lib.hid fun W hW => specAt_any lo L ro.toNat n c (evI L s) A0 f W hsp hL.1 hL.2 hn (by omega) (H0.out.below hW (Nat.le_refl _))
      rw [er, ← hse] at CT
      rw [btB_yes hbt, Bool.true_and]
      generalize Dg.ev (ndl n f) L.toNat L.toNat ro.toNat (evI L s) = z at CT ⊢
      clear hse hbt hv er hsp hL h4 hro
      go_enter Tryd.func11, Tryd.ntmps11
      go_wp2_with (first
        | (go_at_call 24
           refine (CG.out _ hB).mono ?_
           rintro e w1 ⟨rfl, hb⟩
           clear q0 q1 q2
           replace hP := hP.below hb hP.lt
           replace hB := hB.trans (hb.mono hB.size)
           clear hb
           obtain ⟨q0, q1, q2⟩ := hP.trio)
        | (go_at_call 15
           refine (CB.out _).mono ?_
           rintro e w2 ⟨y, rfl, hy, hb⟩
           obtain rfl : y = true := hy.out.2 HX.out
           clear q0 q1 q2 hy
           replace hP := hP.below hb hP.lt
           replace hB := hB.trans (hb.mono hB.size)
           clear hb
           obtain ⟨q0, q1, q2⟩ := hP.trio)
        | (go_at_call 25
           refine (CT.out _ hB).mono ?_
           rintro e w3 ⟨rfl, hb⟩
           clear q0 q1 q2
           replace hB := hB.trans (hb.mono hB.size)
           clear hb))
      go_ret2
      exact ⟨rfl, hB⟩
    · have HX := Lib.hid hbt
      rw [btB_no hbt, Bool.false_and]
      clear hbt hv
      go_enter Tryd.func11, Tryd.ntmps11
      go_wp2_with (first
        | (go_at_call 24
           refine (CG.out _ hB).mono ?_
           rintro e w1 ⟨rfl, hb⟩
           clear q0 q1 q2
           replace hP := hP.below hb hP.lt
           replace hB := hB.trans (hb.mono hB.size)
           clear hb
           obtain ⟨q0, q1, q2⟩ := hP.trio)
        | (go_at_call 15
           refine (CB.out _).mono ?_
           rintro e w2 ⟨y, rfl, hy, hb⟩
           obtain rfl : y = false := (by cases y with | false => rfl | true => exact (HX.out (hy.out.1 rfl)).elim)
           clear q0 q1 q2 hy
           replace hP := hP.below hb hP.lt
           replace hB := hB.trans (hb.mono hB.size)
           clear hb
           obtain ⟨q0, q1, q2⟩ := hP.trio))
      go_ret2
      exact ⟨rfl, hB⟩

end Go.Proofs.YtmobcahfalaaeaaDoor
