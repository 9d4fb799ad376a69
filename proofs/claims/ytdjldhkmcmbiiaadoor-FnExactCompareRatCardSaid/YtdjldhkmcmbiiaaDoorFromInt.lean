/-
  The model's conversion of an int, one digit appended a round.
-/
import Derived.Test.YtdjldhkmcmbiiaaDoorTrim
namespace Go.Proofs.YtdjldhkmcmbiiaaDoor
open Go.RowKit Num

theorem below_grown_own {B : Nat} {w wr w1 : World} {o : Obj} {v : Value} {base : Nat} {e : TypeId} {n : Nat} {xs : List Value} (hbel : Below B w wr) (hB : B ≤ wr.heap.size) (hbase : B ≤ base) (hown : wr.ownsRow base e 1 v n xs) (hgrow : (wr.alloc o).grownBy w1 v.ownBlock) : Below B w w1 :=
  (hbel.alloc hB o).grown hgrow (by simp; omega) (fun k hk => by have := (hown.lt k hk).1; omega)

theorem own_snoc {k : IntKind} {w1 : World} {base : Nat} {e : TypeId} {v' : Value} {pre : List Nat} {x : Int} {y : Nat} (hxy : x = (y : Nat)) (hown' : w1.ownsRow base e 1 v' (pre.length + 1) (pre.map (fun x => Value.int k (x : Nat)) ++ [.int k x])) :
    w1.ownsRow base e 1 v' (pre ++ [y]).length ((pre ++ [y]).map fun x => Value.int k (x : Nat)) := by
  subst hxy
  simpa using hown'

/-- 2^40, behind a name: no number format of the program comes near it. -/
def big : Nat := 1099511627776
theorem big_val : big = 1099511627776 := rfl

theorem ln_int (n : Nat) (h : n < 9223372036854775808) : ln 10000 n ≤ 5 := ln_le_of_lt _ _ _ (by omega) (by omega)

set_option maxHeartbeats 400000 in
theorem fromInt_any (n : Nat) (w : World) (hn : n < 9223372036854775808) :
    Calls Tryd.prog 72 #[.int .i64 (n : Nat)] w fun e w' => (∃ v, e = .returned v ∧ Nums 3 .i64 10000 w' v n) ∧ Below w.heap.size w w' := by
  obtain ⟨i0, hi, hz0, hz1, hz2⟩ := info_parts Tryd.info_int
  have Hn := Lib.hid hn; clear hn
  go_enter Tryd.func72, Tryd.ntmps72
  go_wp2_with fail
  go_loopw [0, 3] (fun t v wr => ∃ (r : Nat) (pre : List Nat), t = .int .i64 (r : Nat) ∧ digs 10000 n = pre ++ digs 10000 r ∧ r < 9223372036854775808 ∧ wr.ownsRow w.heap.size 3 1 v pre.length (pre.map fun x => .int .i64 (x : Nat)) ∧ Below w.heap.size w wr) (fun t _ _ => (intOf t).toNat)
  case atStart => exact ⟨n, [], rfl, rfl, Hn.out, World.ownsRow_nil _ _ _ _, Below.refl _ _⟩
  case round =>
    obtain ⟨r, pre, rfl, hpre, hr, hown, hbel⟩ := hrel
    have hlen : pre.length ≤ 5 := by
      have h1 := ln_int n Hn.out
      have h2 : ln 10000 n = pre.length + ln 10000 r := by rw [ln, hpre, List.length_append]; rfl
      omega
    have Hpre := Lib.hid hpre; clear hpre
    by_cases h0 : 0 < r
    · go_wp2_with (at_builtin; refine wpList_append_own _ rfl _ _ 51 rfl w.heap.size 3 i0 (.int .i64 0) 1 8 Tryd.underlying51 hi hz0 hz1 hz2 rfl (by decide) _ _ _ rfl (hown.alloc _) ⟨wr.heap.size, 0, none⟩ 1 1 [.int .i64 ((r : Int) % 10000)] rfl rfl ?c1 ?c2 ?c3 ?c4 ?c5 ?_)
      case c1 => exact cell_one_new _ _ _
      case c2 => intro u hu; simp at hu; subst hu; rfl
      case c3 => unfold maxLen; omega
      case c4 => omega
      case c5 => have := hbel.size; simp; omega
      intro v' w1 hown' hgrow _
      have hb1 := below_grown_own hbel hbel.size (Nat.le_refl _) hown hgrow
      have ho1 := own_snoc (y := r % 10000) (by omega) hown'
      clear hown' hgrow hown hbel
      go_wp2_with fail
      go_roundw
      case rel => exact ⟨r / 10000, pre ++ [r % 10000], by go_num, by rw [Hpre.out, List.append_assoc]; rw [digs_pos 10000 r (by omega) h0]; rfl, by omega, ho1, hb1⟩
      case measure => simp [intOf]; omega
    · obtain rfl : r = 0 := by omega
      go_wp2_with fail
      go_ret
      refine ⟨⟨_, rfl, ?_⟩, hbel⟩
      have e : pre = digs 10000 n := by rw [Hpre.out]; simp [digs_zero]
      have h1 := rowF_own pre rfl hown
      rw [e] at h1
      exact h1

end Go.Proofs.YtdjldhkmcmbiiaaDoor
