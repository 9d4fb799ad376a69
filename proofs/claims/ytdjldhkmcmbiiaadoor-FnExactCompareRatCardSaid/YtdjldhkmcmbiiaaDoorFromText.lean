/-
  The model's reading of a numeral.
-/
import Derived.Test.YtdjldhkmcmbiiaaDoorFromInt
import Derived.Test.YtdjldhkmcmbiiaaDoorNumerals
import Derived.Test.YtdjldhkmcmbiiaaDoorReadW
namespace Go.Proofs.YtdjldhkmcmbiiaaDoor
open Go.RowKit Num

theorem most_any (a b : Int) (w : World) : Calls Tryd.prog 115 #[.int .i64 a, .int .i64 b] w fun e w' => e = .returned (.int .i64 (max a b)) ∧ w = w' := by
  by_cases h : b < a
  · have e : max a b = a := by omega
    rw [e]
    go_enter Tryd.func115, Tryd.ntmps115
    go_wp2_with fail
    go_ret
    exact ⟨rfl, rfl⟩
  · have e : max a b = b := by omega
    rw [e]
    go_enter Tryd.func115, Tryd.ntmps115
    go_wp2_with fail
    go_ret
    exact ⟨rfl, rfl⟩

theorem text_step {d : Nat → Nat} {N E st n len : Nat} {pre : List Nat} (h : N = Read.rd d E * 10000 ^ len + val 10000 pre) (hl : pre.length = len) (hst : st = E - 4) (hE : 0 < E) (hn : n = Read.seg d st (E - st)) : N = Read.rd d st * 10000 ^ (len + 1) + val 10000 (pre ++ [n]) := by
  have h1 := Read.rd_join d st (E - st)
  rw [show st + (E - st) = E by omega, ← hn] at h1
  rw [val_snoc, hl, h, h1, Nat.pow_succ]
  by_cases h4 : 4 ≤ E
  · rw [show E - st = 4 by omega, show (10 : Nat) ^ 4 = 10000 from rfl, Nat.add_mul, Nat.mul_assoc, Nat.mul_comm 10000, Nat.mul_comm n]
    omega
  · have h0 : Read.rd d st = 0 := by rw [show st = 0 by omega]; rfl
    rw [h0]
    simp only [Nat.zero_mul, Nat.zero_add]
    rw [Nat.mul_comm]
    omega

set_option maxRecDepth 100000 in
set_option maxHeartbeats 800000 in
theorem fromText_any (s : ByteArray) (w : World) (h : isNum s = true) :
    Calls Tryd.prog 79 #[.string s] w fun e w' => (∃ v, e = .returned v ∧ Nums 3 .i64 10000 w' v (numOf s)) ∧ Below w.heap.size w w' := by
  obtain ⟨i0, hi, hz0, hz1, hz2⟩ := info_parts Tryd.info_int
  obtain ⟨hsz, hdg, _⟩ := isNum_parts h
  have Hdg := Lib.hid hdg
  clear hdg h
  go_enter Tryd.func79, Tryd.ntmps79
  go_wp2_with fail
  go_loopw [3, 4] (fun v t wr => ∃ (len : Nat) (pre : List Nat), t = .int .i64 ((s.size : Int) - 4 * len) ∧ len ≤ 31 ∧ pre.length = len ∧ Dig 10000 pre ∧ numOf s = Read.rd (dgt s) (s.size - 4 * len) * 10000 ^ len + val 10000 pre ∧ wr.ownsRow w.heap.size 3 1 v pre.length (pre.map fun x => .int .i64 (x : Nat)) ∧ Below w.heap.size w wr) (fun _ t _ => (intOf t).toNat)
  case atStart => exact ⟨0, [], by simp, by omega, rfl, (fun x hx => by cases hx), by simp [val, numOf], World.ownsRow_nil _ _ _ _, Below.refl _ _⟩
  case round =>
    obtain ⟨len, pre, rfl, hlen, hpl, hdig, hval, hown, hbel⟩ := hrel
    have Hval := Lib.hid hval; clear hval
    have Hdig := Lib.hid hdig; clear hdig
    have Hpl := Lib.hid hpl; clear hpl
    by_cases h0 : 4 * len < s.size
    · obtain ⟨E, hE⟩ : ∃ E, E = s.size - 4 * len := ⟨_, rfl⟩
      obtain ⟨st, hst⟩ : ∃ st, st = E - 4 := ⟨_, rfl⟩
      have hEi : (s.size : Int) - 4 * (len : Int) = (E : Int) := by omega
      have hmx : max (0 : Int) ((E : Int) - 4) = (st : Int) := by omega
      have hE0 : 0 < E := by omega
      have hEs : E ≤ s.size := by omega
      rw [hEi]
      have C1 : Hid (∀ W, Calls Tryd.prog 115 #[.int .i64 0, .int .i64 ((E : Int) - 4)] W fun e w' => e = .returned (.int .i64 (st : Nat)) ∧ W = w') := Lib.hid fun W => by rw [← hmx]; exact most_any _ _ W
      have HE := Lib.hid hE
      have Hst := Lib.hid hst
      have hstE : st < E := by omega
      have hstE4 : E ≤ st + 4 := by omega
      have Hown := Lib.hid hown
      have Hbel := Lib.hid hbel
      clear hE hst hEi hmx hown hbel
      go_wp2_with (go_at_call 115; refine (C1.out _).mono ?_; rintro e w' ⟨rfl, rfl⟩)
      go_loop [5, 6] (fun a b => ∃ i n : Nat, a = .int .i64 (n : Nat) ∧ b = .int .i64 (i : Nat) ∧ st ≤ i ∧ i ≤ E ∧ n = Read.seg (dgt s) st (i - st)) (fun _ b => E - (intOf b).toNat)
      case atStart => exact ⟨st, 0, rfl, rfl, by omega, by omega, by simp [Read.seg]⟩
      case round =>
        obtain ⟨i, n, rfl, rfl, h1, h2, hn⟩ := hrel
        have hnb : n < 10000 := by
          rw [hn]
          have h7 := Read.seg_lt (dgt s) st (i - st) fun j hj1 hj2 => by have := Hdg.out j (by omega); unfold dgt; omega
          have h8 : (10 : Nat) ^ (i - st) ≤ 10 ^ 4 := Nat.pow_le_pow_right (by omega) (by omega)
          omega
        have Hn := Lib.hid hn; clear hn
        by_cases hi2 : i < E
        · have hlt : i < s.size := by omega
          have hb := byt_eq s i hlt
          have hd := Hdg.out i hlt
          have hseg : Hid (10 * n + dgt s i = Read.seg (dgt s) st (i + 1 - st)) := Lib.hid (by
            rw [show i + 1 - st = (i - st) + 1 by omega, Read.seg, Hn.out, show st + (i - st) = i by omega])
          have hv : (10 : Int) * (n : Int) + ((s[i].toNat : Int) - 48) % 256 = ((10 * n + dgt s i : Nat) : Int) := by unfold dgt; omega
          have Hv := Lib.hid hv
          clear hb hd hv
          go_wp2_with fail
          refine ⟨⟨i + 1, 10 * n + dgt s i, ?_, by go_num, by omega, by omega, hseg.out⟩, by simp [intOf]; omega⟩
          first | rw [Hv.out] | (have := Hv.out; simp only [this]) | (congr 1; have := Hv.out; omega)
        · obtain rfl : i = E := by omega
          have hown := Hown.out
          have hbel := Hbel.out
          go_wp2_with (at_builtin; refine wpList_append_own _ rfl _ _ 51 rfl w.heap.size 3 i0 (.int .i64 0) 1 8 Tryd.underlying51 hi hz0 hz1 hz2 rfl (by decide) _ _ _ rfl (hown.alloc _) ⟨wr.heap.size, 0, none⟩ 1 1 [.int .i64 (n : Nat)] rfl rfl (cell_one_new _ _ _) ?c2 ?c3 ?c4 ?c5 ?_)
          case c2 => first | rfl | (intro u hu; simp at hu; subst hu; rfl)
          case c3 => have := Hpl.out; unfold maxLen; omega
          case c4 => have := Hpl.out; omega
          case c5 => have := hbel.size; simp; omega
          intro v' w1 hown' hgrow _
          have hb1 := below_grown_own hbel hbel.size (Nat.le_refl _) hown hgrow
          have ho1 := own_snoc (y := n) rfl hown'
          have hv := Hval.out
          rw [← HE.out] at hv
          have hnew := text_step hv Hpl.out (E := i) (st := st) (n := n) Hst.out hE0 Hn.out
          have hnb2 : n < 10000 := hnb
          have Hnew := Lib.hid hnew
          have Ho1 := Lib.hid ho1
          have Hb1 := Lib.hid hb1
          clear hown' hgrow hown hbel hnew ho1 hb1 hi2 hv
          go_wp2_with fail
          go_roundw
          case rel => exact ⟨len + 1, pre ++ [n], by have := HE.out; congr 1; omega, by omega, by rw [List.length_append, Hpl.out]; rfl, Hdig.out.snoc hnb2, by rw [show s.size - 4 * (len + 1) = st from by have := HE.out; have := Hst.out; omega]; exact Hnew.out, Ho1.out, Hb1.out⟩
          case measure => have := HE.out; simp [intOf]; omega
    · have hE : s.size - 4 * len = 0 := by omega
      have hv := Hval.out
      rw [hE, show Read.rd (dgt s) 0 = 0 from rfl, Nat.zero_mul, Nat.zero_add] at hv
      have Hv := Lib.hid hv
      have hneg : (s.size : Int) - 4 * (len : Int) ≤ 0 := by omega
      have hrow := rowF_own pre rfl hown
      have C2 := Lib.hid (trim_any _ pre wr Hdig.out hrow)
      obtain ⟨z, hz⟩ : ∃ z : Int, z = (s.size : Int) - 4 * (len : Int) := ⟨_, rfl⟩
      rw [← hz] at hneg ⊢
      clear hE hv hz hrow
      go_wp2_with (go_at_call 94; refine C2.out.mono ?_; rintro e w' ⟨⟨v', rfl, hv'⟩, rfl⟩)
      go_ret
      rw [← Hv.out] at hv'
      exact ⟨⟨_, rfl, hv'⟩, hbel⟩

end Go.Proofs.YtdjldhkmcmbiiaaDoor
