/-
  Decision diagrams, the program: whether a diagram is true at an assignment.
-/
import Derived.Test.YtamjfcckgeakfaaDgTc
namespace Go.Proofs.Ytamjfcckgeakfaa
open Go.RowKit Num
namespace Dg

/-- The reference behind k levels. -/
def rf (N : List Nd) (L r j : Nat) : Nat → Nat
  | 0 => r
  | k + 1 => ch N (rf N L r j k) k (j / 2 ^ (L - 1 - k) % 2 == 1)

theorem rf_ev (N : List Nd) (L r j : Nat) : ∀ k, k ≤ L → ev N L L r j = ev N L (L - k) (rf N L r j k) j
  | 0, _ => rfl
  | k + 1, h => by
    rw [rf_ev N L r j k (by omega), show L - k = (L - (k + 1)) + 1 by omega, ev, rf, show L - (L - (k + 1) + 1) = k by omega, show L - 1 - k = L - (k + 1) by omega]

theorem rf_end (N : List Nd) (L r j : Nat) : ev N L L r j = (rf N L r j L == 1) := by
  rw [rf_ev N L r j L (Nat.le_refl _), Nat.sub_self, ev]

theorem ch_lt {L : Nat} {N : List Nd} (hs : Shp L N) {r l : Nat} {b : Bool} (hr : r < N.length + 2) : ch N r l b < N.length + 2 := by
  unfold ch
  split
  · exact hr
  · rename_i h
    have a := (hs.lo (r := r) (by omega) hr).1
    have b := (hs.hi (r := r) (by omega) hr).1
    split <;> omega

theorem rf_lt {L : Nat} {N : List Nd} (hs : Shp L N) {r j : Nat} (hr : r < N.length + 2) : ∀ k, rf N L r j k < N.length + 2
  | 0 => hr
  | k + 1 => ch_lt hs (rf_lt hs hr k)

end Dg

theorem held1t {W W' : World} {p0 p1 p2 : Prop} (h : p0 ∧ p1 ∧ p2 ∧ Below W.heap.size W W') : Below W.heap.size W W' := h.2.2.2

set_option maxRecDepth 100000 in
set_option maxHeartbeats 6400000 in
theorem isTrueAt_any (lo : Nat) (L : Int) (r n c i : Nat) (A0 : Option Addr) (f : Nat → Int) (w : World) (hs : ShpI L n f) (h0L : 0 ≤ L) (hL : L ≤ 10) (hn : n ≤ 1048576) (hr : r < n + 2) (h0 : IntsAt lo w A0 (n * 3) f) :
    Calls Try.prog 55 #[dgV L A0 n c (r : Nat), .string ⟨(bin L.toNat i).toArray⟩] w fun e w' => e = .returned (.bool (Dg.ev (ndl n f) L.toNat L.toNat r i)) ∧ Below w.heap.size w w' := by
  have hP := Box.new w 28 #[.int .i64 L, .slice A0 n c, .int .i64 (r : Nat)]
  have hB := (Below.refl w.heap.size w).alloc (Nat.le_refl _) (.cells #[.int .i64 L, .slice A0 n c, .int .i64 (r : Nat)] 28)
  obtain ⟨q0, q1, q2⟩ := hP.trio
  have H0 := Lib.hid h0; clear h0
  have HS := Lib.hid hs; clear hs
  obtain ⟨M, rfl⟩ : ∃ M : Nat, L = (M : Int) := ⟨L.toNat, by omega⟩
  rw [Int.toNat_natCast]
  have HR := Lib.hid (Dg.rf_end (ndl n f) M r i)
  have HT : Hid (∀ k, Dg.rf (ndl n f) M r i k < n + 2) := Lib.hid fun k => by
    have := Dg.rf_lt HS.out.shp (j := i) (r := r) (by rw [ndl_len]; exact hr) k
    rwa [ndl_len, Int.toNat_natCast] at this
  have HC : Hid (∀ k, Dg.rf (ndl n f) M r i (k + 1) = Dg.ch (ndl n f) (Dg.rf (ndl n f) M r i k) k (i / 2 ^ (M - 1 - k) % 2 == 1)) := Lib.hid fun k => rfl
  have h0r : Dg.rf (ndl n f) M r i 0 = r := rfl
  have hbs := bin_size M i
  have HBY : Hid (∀ k (h : k < M), ((⟨(bin M i).toArray⟩ : ByteArray)[k]'(by rw [hbs]; exact h)) = UInt8.ofNat (48 + i / 2 ^ (M - 1 - k) % 2)) := Lib.hid fun k h => byte_bin M i k h hbs
  rw [HR.out]
  clear HR
  generalize Dg.rf (ndl n f) M r i = R at HT HC h0r ⊢
  go_enter Try.func55, Try.ntmps55
  go_wp2_with fail
  clear q0 q1 q2
  generalize hW : World.alloc _ _ = W0 at hP hB ⊢
  clear hW
  go_loopg [5, 11] M (fun q v iv wr => ∃ k : Nat, k + q = M ∧ iv = .int .i64 (k : Nat) ∧ v = .int .i64 (R k : Nat) ∧ Box wr w.heap.size 28 #[.int .i64 (M : Nat), .slice A0 n c, .int .i64 (r : Nat)] ∧ Below w.heap.size w wr)
  case atStart => exact ⟨0, by omega, rfl, by rw [h0r], hP, hB⟩
  case round =>
    clear hP hB
    obtain ⟨k, hk, rfl, rfl, hP, hB⟩ := hrel
    obtain ⟨q0, q1, q2⟩ := hP.trio
    by_cases hk0 : k < M
    · have hby := HBY.out k hk0
      have CC : Hid (∀ W, Below w.heap.size w W → _) := Lib.hid fun W hW => childAt_any lo (M : Int) (r : Nat) (R k) k (i / 2 ^ (M - 1 - k) % 2 == 1) n c A0 f W HS.out hn (HT.out k) (by omega) (H0.out.below hW (Nat.le_refl _))
      rw [← HC.out k] at CC
      have HB := Lib.hid hB
      have HP := Lib.hid hP
      have hPl := hP.lt
      have hf1 : ((((⟨(bin M i).toArray⟩ : ByteArray)[k]'(by rw [hbs]; exact hk0)).toNat : Int) == 49) = (i / 2 ^ (M - 1 - k) % 2 == 1) := by
        rw [hby]
        have : i / 2 ^ (M - 1 - k) % 2 = 0 ∨ i / 2 ^ (M - 1 - k) % 2 = 1 := by omega
        rcases this with e | e <;> rw [e] <;> rfl
      have hkb : k < (⟨(bin M i).toArray⟩ : ByteArray).size := by rw [hbs]; exact hk0
      clear hB hP hby
      generalize (i / 2 ^ (M - 1 - k) % 2 == 1) = z at CC hf1
      go_upto_region 5 with fail
      go_region_held3 (fun w' => w'.cell? ⟨w.heap.size, 0, none⟩ = some (.int .i64 (M : Nat)) ∧ w'.cell? ⟨w.heap.size, 1, none⟩ = some (.slice A0 n c) ∧ w'.cell? ⟨w.heap.size, 2, none⟩ = some (.int .i64 (r : Nat)) ∧ Below wr.heap.size wr w')
        ((suffices hBB : Below wr.heap.size wr _ from ⟨(hBB.cell hPl).trans q0, (hBB.cell hPl).trans q1, (hBB.cell hPl).trans q2, hBB⟩; first | exact (Below.refl _ wr).drew | exact held1t (by assumption) | (refine stepB (held1t (by assumption)) ?_; assumption)))
        (first | (go_at_call 75; with_reducible refine (CC.out _ (HB.out.trans (Below.mono (held1t (by assumption)) HB.out.size))).mono ?_; rintro e w3 ⟨rfl, hb3⟩))
      have hbw : Below wr.heap.size wr w3 := held1t (by assumption)
      have hP3 := HP.out.below hbw HP.out.lt
      have hB3 := HB.out.trans (hbw.mono HB.out.size)
      go_wp2_with fail
      go_roundg (gk - 1)
      case rel => exact ⟨k + 1, by omega, by go_num, rfl, hP3, hB3⟩
      case measure => omega
    · obtain rfl : k = M := by omega
      have eN : Hid ((((R k : Nat) : Int) == 1) = (R k == 1)) := Lib.hid (by rw [Bool.eq_iff_iff, beq_iff_eq, beq_iff_eq]; omega)
      go_wp2_with fail
      go_ret
      exact ⟨congrArg (fun z => Ending.returned (Value.bool z)) eN.out, hB⟩

end Go.Proofs.Ytamjfcckgeakfaa
