/-
  CountModels: the mathematics and the model.
-/
import Derived.Test.YtmobcahfalaaeaaDgV
namespace Go.Proofs.Ytmobcahfalaaeaa
open Go.RowKit Num
namespace Dg

/-- The number of assignments of the last m levels at which a reference is true. -/
def cn (N : List Nd) (L : Nat) : Nat → Nat → Nat
  | 0, r => (r == 1).toNat
  | m + 1, r => cn N L m (ch N r (L - (m + 1)) false) + cn N L m (ch N r (L - (m + 1)) true)

/-- How often T holds below k. -/
def sm (T : Nat → Bool) : Nat → Nat
  | 0 => 0
  | k + 1 => sm T k + (T k).toNat

theorem sm_part (N : List Nd) (L : Nat) (T : Nat → Bool) : ∀ m q r, (∀ j, j / 2 ^ m = q → T j = ev N L m r j) → sm T ((q + 1) * 2 ^ m) = sm T (q * 2 ^ m) + cn N L m r
  | 0, q, r, h => by
    have := h q (by simp)
    rw [Nat.pow_zero, Nat.mul_one, Nat.mul_one, sm, this, ev, cn]
  | m + 1, q, r, h => by
    have key : ∀ b : Bool, sm T ((2 * q + b.toNat + 1) * 2 ^ m) = sm T ((2 * q + b.toNat) * 2 ^ m) + cn N L m (ch N r (L - (m + 1)) b) := fun b =>
      sm_part N L T m (2 * q + b.toNat) _ fun j hj => by rw [h j (half_of hj), ev_half b hj]
    have k0 := key false
    have k1 := key true
    simp only [Bool.toNat_false, Bool.toNat_true, Nat.add_zero] at k0 k1
    rw [cn, show (q + 1) * 2 ^ (m + 1) = (2 * q + 1 + 1) * 2 ^ m by rw [Nat.pow_succ, ← Nat.mul_assoc, Nat.mul_right_comm, show (q + 1) * 2 = 2 * q + 1 + 1 by omega], k1, k0,
      show q * 2 ^ (m + 1) = 2 * q * 2 ^ m by rw [Nat.pow_succ, ← Nat.mul_assoc, Nat.mul_right_comm, Nat.mul_comm q 2]]
    omega

theorem sm_all (N : List Nd) (L r : Nat) : sm (ev N L L r) (2 ^ L) = cn N L L r := by
  have := sm_part N L (ev N L L r) L 0 r (fun _ _ => rfl)
  simpa [sm] using this

theorem cn_const (N : List Nd) (L : Nat) : ∀ m r, r < 2 → cn N L m r = r * 2 ^ m
  | 0, r, h => by
    have : r = 0 ∨ r = 1 := by omega
    rcases this with rfl | rfl <;> rfl
  | m + 1, r, h => by
    rw [cn, ch_const h, ch_const h, cn_const N L m r h, Nat.pow_succ]
    have : r = 0 ∨ r = 1 := by omega
    rcases this with rfl | rfl <;> omega

theorem cn_le (N : List Nd) (L : Nat) : ∀ m r, cn N L m r ≤ 2 ^ m
  | 0, r => by rw [cn]; cases (r == 1) <;> simp
  | m + 1, r => by
    have h1 := cn_le N L m (ch N r (L - (m + 1)) false)
    have h2 := cn_le N L m (ch N r (L - (m + 1)) true)
    rw [cn, Nat.pow_succ]
    omega

theorem cn_up {N : List Nd} {L m : Nat} (hm : m ≤ L) {r : Nat} (hu : Up N (L - m) r) : ∀ d, m + d ≤ L → cn N L (m + d) r = 2 ^ d * cn N L m r
  | 0, _ => by simp
  | d + 1, h => by
    have hc : ∀ b, ch N r (L - (m + d + 1)) b = r := fun b => by
      unfold ch
      rw [if_pos]
      rcases hu with h' | h'
      · exact .inl h'
      · exact .inr (by omega)
    rw [show m + (d + 1) = m + d + 1 by omega, cn, hc, hc, cn_up hm hu d (by omega), Nat.pow_succ]
    rw [Nat.mul_comm (2 ^ d) 2, Nat.mul_assoc]
    omega

/-- A node takes half of the assignments from each child. -/
theorem cn_node {L : Nat} {N : List Nd} (hs : Shp L N) {r : Nat} (h2 : 2 ≤ r) (hr : r < N.length + 2) : cn N L L (nd N r).2.1 + cn N L L (nd N r).2.2 = 2 * cn N L L r := by
  have hlv := hs.lv h2 hr
  obtain ⟨a1, a2⟩ := hs.lo h2 hr
  obtain ⟨b1, b2⟩ := hs.hi h2 hr
  obtain ⟨m, hm⟩ : ∃ m, L = m + ((nd N r).1 + 1) := ⟨L - ((nd N r).1 + 1), by omega⟩
  have e1 := cn_up (N := N) (L := L) (m := m) (by omega) (r := (nd N r).2.1) (a2.mono (by omega)) ((nd N r).1 + 1) (by omega)
  have e2 := cn_up (N := N) (L := L) (m := m) (by omega) (r := (nd N r).2.2) (b2.mono (by omega)) ((nd N r).1 + 1) (by omega)
  have e3 := cn_up (N := N) (L := L) (m := m + 1) (by omega) (r := r) (.inr (by omega)) ((nd N r).1) (by omega)
  have hch : ∀ b, ch N r (L - (m + 1)) b = if b then (nd N r).2.2 else (nd N r).2.1 := fun b => by unfold ch; rw [if_neg (by omega)]
  rw [show m + ((nd N r).1 + 1) = L by omega] at e1 e2
  rw [show m + 1 + (nd N r).1 = L by omega, cn, hch, hch] at e3
  simp only [Bool.false_eq_true, if_false, if_true] at e3
  rw [e1, e2, e3, Nat.pow_succ, Nat.mul_add]
  generalize cn N L m (nd N r).2.1 = x
  generalize cn N L m (nd N r).2.2 = y
  rw [Nat.mul_comm (2 ^ (nd N r).1) 2, Nat.mul_assoc, Nat.mul_assoc]
  omega

end Dg

/-- The answer: a number and whether there is one. -/
noncomputable def cmB (L ro : Int) (n : Nat) (f : Nat → Int) : Bool := vaB L ro n f
noncomputable def cmN (L ro : Int) (n : Nat) (f : Nat → Int) : Int := if vaB L ro n f then ((Dg.cn (ndl n f) L.toNat L.toNat ro.toNat : Nat) : Int) else 0

set_option maxRecDepth 100000 in
set_option maxHeartbeats 3200000 in
theorem specCm_any (lo : Nat) (L ro : Int) (n c : Nat) (A0 : Option Addr) (f : Nat → Int) (w : World) (hn : n ≤ 1048576) (h0 : IntsAt lo w A0 (n * 3) f) :
    Calls Try.prog 29 #[dgV L A0 n c ro] w fun e w' => e = .returned (.tuple #[.int .i64 (cmN L ro n f), .bool (cmB L ro n f)]) ∧ Below w.heap.size w w' := by
  have hP := Box.new w 24 #[.int .i64 L, .slice A0 n c, .int .i64 ro]
  have hB := (Below.refl w.heap.size w).alloc (Nat.le_refl _) (.cells #[.int .i64 L, .slice A0 n c, .int .i64 ro] 24)
  obtain ⟨q0, q1, q2⟩ := hP.trio
  have H0 := Lib.hid h0; clear h0
  have CG : Hid (∀ W, Below w.heap.size w W → _) := Lib.hid fun W hW => specGdE_any lo L ro n c A0 f W hn (H0.out.below hW (Nat.le_refl _))
  unfold cmN cmB
  cases hv : vaB L ro n f with
  | false =>
    rw [hv] at CG
    rw [if_neg (by simp)]
    clear hv
    go_enter Try.func29, Try.ntmps29
    go_wp2_with (go_at_call 54; refine (CG.out _ hB).mono ?_; rintro e w1 ⟨rfl, hb⟩)
    go_ret2
    exact ⟨rfl, hB.trans (hb.mono hB.size)⟩
  | true =>
    rw [hv] at CG
    rw [if_pos rfl]
    have hvd := (vd_iff L ro n f).1 ((vaB_iff L ro n f).1 hv)
    obtain ⟨⟨hL, h4, hro, hs⟩, _⟩ := hvd
    have er : ((ro.toNat : Nat) : Int) = ro := by omega
    have CT : Hid (∀ W, Below w.heap.size w W → _) := Lib.hid fun W hW => specTable_any lo L ro.toNat n c A0 f W hs hL.1 hL.2 hn (by omega) (H0.out.below hW (Nat.le_refl _))
    have hpw : 2 ^ L.toNat ≤ 1024 := Nat.le_trans (Nat.pow_le_pow_right (by omega) (show L.toNat ≤ 10 by omega)) (by decide)
    rw [er] at CT
    rw [← Dg.sm_all]
    generalize Dg.ev (ndl n f) L.toNat L.toNat ro.toNat = T at CT ⊢
    generalize 2 ^ L.toNat = M at CT hpw ⊢
    have hsz : (tbS T M).size = M := by show (tbB T M).toArray.size = M; rw [List.size_toArray, tbB_len]
    have hby : Hid (∀ k (h : k < (tbS T M).size), ((tbS T M)[k]'h).toNat = if T k then 49 else 48) := Lib.hid fun k h => by
      have h1 := byte_at h
      rw [show (tbS T M).data.toList = tbB T M by simp [tbS]] at h1
      have h2 : (tbB T M)[k]? = some (if T k then 49 else 48) := by
        rw [hsz] at h
        simp only [tbB, List.getElem?_map, List.getElem?_range h, Option.map_some]
      rw [h2] at h1
      injection h1 with h1
      rw [← h1]
      split <;> rfl
    generalize tbS T M = S at CT hsz hby
    subst hsz
    have hsm : Hid (∀ k, Dg.sm T k ≤ k) := Lib.hid fun k => by
      induction k with
      | zero => exact Nat.le_refl _
      | succ k ih => rw [Dg.sm]; cases T k <;> simp <;> omega
    clear hv er hs hL h4 hro
    go_enter Try.func29, Try.ntmps29
    go_wp2_with (first
      | (go_at_call 54
         refine (CG.out _ hB).mono ?_
         rintro e w1 ⟨rfl, hb⟩
         clear q0 q1 q2
         replace hP := hP.below hb hP.lt
         replace hB := hB.trans (hb.mono hB.size)
         clear hb
         obtain ⟨q0, q1, q2⟩ := hP.trio)
      | (go_at_call 55
         refine (CT.out _ hB).mono ?_
         rintro e w2 ⟨rfl, hb⟩
         clear q0 q1 q2
         replace hB := hB.trans (hb.mono hB.size)
         clear hb))
    go_loopg [4, 6] S.size (fun q v iv wr => ∃ k : Nat, k + q = S.size ∧ iv = .int .i64 (k : Nat) ∧ v = .int .i64 (Dg.sm T k : Nat) ∧ wr = w2)
    case atStart => exact ⟨0, by omega, rfl, rfl, rfl⟩
    case round =>
      obtain ⟨k, hk, rfl, rfl, rfl⟩ := hrel
      by_cases hk0 : k < S.size
      · have g1 := hby.out k hk0
        have g2 := hsm.out k
        cases hT : T k with
        | true =>
          rw [hT, if_pos rfl] at g1
          have g1' : ((S[k]'hk0).toNat : Int) = 49 := by omega
          have HS : Hid (Dg.sm T (k + 1) = Dg.sm T k + 1) := Lib.hid (by rw [Dg.sm, hT]; rfl)
          generalize Dg.sm T k = s at HS g2 ⊢
          clear g1 hT
          go_wp2_with fail
          go_roundg (gk - 1)
          case rel => exact ⟨k + 1, by omega, by go_num, by rw [HS.out]; go_num, rfl⟩
          case measure => omega
        | false =>
          rw [hT, if_neg (by simp)] at g1
          have g1' : ((S[k]'hk0).toNat : Int) = 48 := by omega
          have HS : Hid (Dg.sm T (k + 1) = Dg.sm T k) := Lib.hid (by rw [Dg.sm, hT]; rfl)
          generalize Dg.sm T k = s at HS g2 ⊢
          clear g1 hT
          go_wp2_with fail
          go_roundg (gk - 1)
          case rel => exact ⟨k + 1, by omega, by go_num, by rw [HS.out], rfl⟩
          case measure => omega
      · obtain rfl : k = S.size := by omega
        go_wp2_with fail
        go_ret2
        exact ⟨rfl, hB⟩

end Go.Proofs.Ytmobcahfalaaeaa
