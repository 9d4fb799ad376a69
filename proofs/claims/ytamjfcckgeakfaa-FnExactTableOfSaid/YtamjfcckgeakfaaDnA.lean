/-
  Truth tables and binary numerals: the model's functions.
-/
import Derived.Test.YtamjfcckgeakfaaHold
import Derived.Laws.MakeOwn
import Derived.Deep.LoopGhost
import Derived.Deep.DeepCutAuto
import Derived.Deep.RegionHeld3
import Derived.Laws.BytesArg
import Derived.Lib.Join
namespace Go.Proofs.Ytamjfcckgeakfaa
open Go.RowKit Num

/-- The last n binary digits of i, as a text. -/
def bin : Nat → Nat → List UInt8
  | 0, _ => []
  | n + 1, i => UInt8.ofNat (48 + i / 2 ^ n % 2) :: bin n i

theorem bin_len : ∀ n i : Nat, (bin n i).length = n
  | 0, _ => rfl
  | n + 1, i => by rw [bin, List.length_cons, bin_len n i]

/-- A test's post: a bool that is true just where p holds. -/
def Yd (p : Prop) (w : World) (e : Ending) (w' : World) : Prop := ∃ r : Bool, e = .returned (.bool r) ∧ Hid (r = true ↔ p) ∧ Below w.heap.size w w'
theorem Yd.no {p : Prop} {w w' : World} (h : ¬ p) (hb : Below w.heap.size w w') : Yd p w (.returned (.bool false)) w' := ⟨false, rfl, Lib.hid ⟨fun h' => (by cases h'), fun h' => absurd h' h⟩, hb⟩
theorem Yd.yes {p : Prop} {w w' : World} (h : p) (hb : Below w.heap.size w w') : Yd p w (.returned (.bool true)) w' := ⟨true, rfl, Lib.hid ⟨fun _ => h, fun _ => rfl⟩, hb⟩

/-- All bytes are digits 0 and 1. -/
def Bits (s : ByteArray) : Prop := ∀ (j : Nat) (b : UInt8), s.data.toList[j]? = some b → b = 48 ∨ b = 49
/-- A truth table of n variables. -/
def Tb (s : ByteArray) (n : Nat) : Prop := n ≤ 10 ∧ s.size = 2 ^ n ∧ Bits s

theorem byte_at {s : ByteArray} {k : Nat} (h : k < s.size) : s.data.toList[k]? = some (s[k]'h) := by
  rw [Array.getElem?_toList]
  exact Array.getElem?_eq_getElem h

theorem conv_bin (w : World) (c : Int) : (convert 43 9 (.slice (some ⟨w.heap.size, 0, none⟩) 1 1)).run Try.prog (w.alloc (.cells #[.int .u8 c] 5)) = .ok (.string ⟨#[UInt8.ofNat c.toNat]⟩) (w.alloc (.cells #[.int .u8 c] 5)) :=
  run_convert_bytes_arg (P := Try.prog) (w.alloc (.cells #[.int .u8 c] 5)) 43 5 Try.underlying43 Try.underlying5 w.heap.size 0 1 1 [c] rfl (fun i hi => by
    obtain rfl : i = 0 := by omega
    exact (Box.new w 5 #[.int .u8 c]).cell 0) 9 Try.underlying9

set_option maxRecDepth 100000 in
set_option maxHeartbeats 1600000 in
theorem specNum_any (i m : Nat) (w : World) (hi : i ≤ 1048576) (hm : m ≤ 64) :
    Calls Try.prog 67 #[.int .i64 (i : Nat), .int .i64 (m : Nat)] w fun e w' => e = .returned (.string ⟨(bin m i).toArray⟩) ∧ Below w.heap.size w w' := by
  have hcv := conv_bin
  go_enter Try.func67, Try.ntmps67
  go_wp2_with fail
  go_loopg [0, 1, 5] m (fun q a b c wr => ∃ k : Nat, k + q = m ∧ a = .int .i64 ((i / 2 ^ k : Nat) : Int) ∧ b = .int .i64 (q : Nat) ∧ c = .string ⟨(bin k i).toArray⟩ ∧ Below w.heap.size w wr)
  case atStart => exact ⟨0, by omega, by simp, by simp, rfl, Below.refl _ _⟩
  case round =>
    obtain ⟨k, hk, rfl, rfl, rfl, hbel⟩ := hrel
    by_cases hk0 : 0 < gk
    · obtain ⟨d, hd⟩ : ∃ d, d = i / 2 ^ k := ⟨_, rfl⟩
      have hd1 : d ≤ 1048576 := by rw [hd]; exact Nat.le_trans (Nat.div_le_self _ _) hi
      have hd2 : i / 2 ^ (k + 1) = d / 2 := by rw [hd, Nat.pow_succ, Nat.div_div_eq_div_mul]
      have hbn : bin (k + 1) i = UInt8.ofNat (48 + d % 2) :: bin k i := by rw [bin, hd]
      rw [← hd]
      have HD := Lib.hid hd2
      have HBn := Lib.hid hbn
      clear hd hd2 hbn
      obtain ⟨r, hr⟩ : ∃ r, r = d % 2 := ⟨_, rfl⟩
      have hr2 : r < 2 := by omega
      have et : ((d : Int)).tmod 2 = (r : Int) := by rw [Int.tmod_eq_emod_of_nonneg (by omega)]; omega
      have eq : IntKind.i64.wrap ((d : Int) / 2) = (d : Int) / 2 := IntWalk.i64_in _ (by omega)
      have ew : IntKind.i64.wrap (48 + (r : Int)) = 48 + (r : Int) := IntWalk.i64_in _ (by omega)
      have eu : IntKind.u8.wrap (48 + (r : Int)) = 48 + (r : Int) := IntWalk.u8_in _ (by omega)
      have Hr := Lib.hid hr; clear hr
      have hbl : (bin k i).length = k := bin_len k i
      go_wp2_with fail
      go_roundg (gk - 1)
      case rel => exact ⟨k + 1, by omega, by rw [HD.out]; simp, by go_num, by rw [HBn.out, ← Hr.out]; simp; apply ByteArray.ext; simp, hbel.alloc hbel.size _⟩
      case measure => omega
    · obtain rfl : gk = 0 := by omega
      obtain rfl : k = m := by omega
      go_wp2_with fail
      go_ret
      exact ⟨rfl, hbel⟩

end Go.Proofs.Ytamjfcckgeakfaa
