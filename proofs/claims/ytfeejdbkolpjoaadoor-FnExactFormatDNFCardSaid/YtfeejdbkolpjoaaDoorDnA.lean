/-
  Truth tables and binary numerals: the model's functions.
-/
import Derived.Test.YtfeejdbkolpjoaaDoorHold
import Derived.Laws.MakeOwn
import Derived.Deep.LoopGhost
import Derived.Deep.DeepCutAuto
import Derived.Deep.RegionHeld3
import Derived.Laws.BytesArg
import Derived.Lib.Join
namespace Go.Proofs.YtfeejdbkolpjoaaDoor
open Go.RowKit Num

/-- The last n binary digits of i, as a text. -/
def bin : Nat → Nat → List UInt8
  | 0, _ => []
  | n + 1, i => UInt8.ofNat (48 + i / 2 ^ n % 2) :: bin n i

theorem bin_len : ∀ n i : Nat, (bin n i).length = n
  | 0, _ => rfl
  | n + 1, i => by rw [bin, List.length_cons, bin_len n i]

/-- A test's post: a bool that is true just where p holds. -/
def Yd (p : Prop) (w : World) (e : Ending) (w' : World) : Prop := ∃ r : Bool, e = .returned (.bool r) ∧ Hid (r = true ↔ p) ∧ Below w.heap.size w w'
theorem Yd.no {p : Prop} {w w' : World} (h : ¬ p) (hb : Below w.heap.size w w') : Yd p w (.returned (.bool false)) w' := ⟨false, rfl, Lib.hid ⟨fun h' => (by cases h'), fun h' => absurd h' h⟩, hb⟩
theorem Yd.yes {p : Prop} {w w' : World} (h : p) (hb : Below w.heap.size w w') : Yd p w (.returned (.bool true)) w' := ⟨true, rfl, Lib.hid ⟨fun _ => h, fun _ => rfl⟩, hb⟩

/-- All bytes are digits 0 and 1. -/
def Bits (s : ByteArray) : Prop := ∀ (j : Nat) (b : UInt8), s.data.toList[j]? = some b → b = 48 ∨ b = 49
/-- A truth table of n variables. -/
def Tb (s : ByteArray) (n : Nat) : Prop := n ≤ 10 ∧ s.size = 2 ^ n ∧ Bits s

theorem byte_at {s : ByteArray} {k : Nat} (h : k < s.size) : s.data.toList[k]? = some (s[k]'h) := by
  rw [Array.getElem?_toList]
  exact Array.getElem?_eq_getElem h

theorem conv_bin (w : World) (c : Int) : (convert 33 9 (.slice (some ⟨w.heap.size, 0, none⟩) 1 1)).run Tryd.prog (w.alloc (.cells #[.int .u8 c] 5)) = .ok (.string ⟨#[UInt8.ofNat c.toNat]⟩) (w.alloc (.cells #[.int .u8 c] 5)) :=
  run_convert_bytes_arg (P := Tryd.prog) (w.alloc (.cells #[.int .u8 c] 5)) 33 5 Tryd.underlying33 Tryd.underlying5 w.heap.size 0 1 1 [c] rfl (fun i hi => by
    obtain rfl : i = 0 := by omega
    exact (Box.new w 5 #[.int .u8 c]).cell 0) 9 Tryd.underlying9

set_option maxRecDepth 100000 in
set_option maxHeartbeats 1600000 in
theorem specNum_any (i m : Nat) (w : World) (hi : i ≤ 1048576) (hm : m ≤ 64) :
    Calls Tryd.prog 7 #[.int .i64 (i : Nat), .int .i64 (m : Nat)] w fun e w' => e = .returned (.string ⟨(bin m i).toArray⟩) ∧ Below w.heap.size w w' := by
  have hcv := conv_bin
  go_enter Tryd.func7, Tryd.ntmps7
  go_wp2_with fail
  go_loopg [0, 1, 5] m (fun q a b c wr => ∃ k : Nat, k + q = m ∧ a = .int .i64 ((i / 2 ^ k : Nat) : Int) ∧ b = .int .i64 (q : Nat) ∧ c = .string ⟨(bin k i).toArray⟩ ∧ Below w.heap.size w wr)
  case atStart => exact ⟨0, by omega, by simp, by simp, rfl, Below.refl _ _⟩
  case round =>
    obtain ⟨k, hk, rfl, rfl, rfl, hbel⟩ := hrel
    by_cases hk0 : 0 < gk
    · obtain ⟨d, hd⟩ : ∃ d, d = i / 2 ^ k := ⟨_, rfl⟩
      have hd1 : d ≤ 1048576 := by rw [hd]; exact Nat.le_trans (Nat.div_le_self _ _) hi
      have hd2 : i / 2 ^ (k + 1) = d / 2 := by rw [hd, Nat.pow_succ, Nat.div_div_eq_div_mul]
      have hbn : bin (k + 1) i = UInt8.ofNat (48 + d % 2) :: bin k i := by rw [bin, hd]
      rw [← hd]
      have HD := Lib.hid hd2
      have HBn := Lib.hid hbn
      clear hd hd2 hbn
      obtain ⟨r, hr⟩ : ∃ r, r = d % 2 := ⟨_, rfl⟩
      have hr2 : r < 2 := by omega
      have et : ((d : Int)).tmod 2 = (r : Int) := by rw [Int.tmod_eq_emod_of_nonneg (by omega)]; omega
      have eq : IntKind.i64.wrap ((d : Int) / 2) = (d : Int) / 2 := IntWalk.i64_in _ (by omega)
      have ew : IntKind.i64.wrap (48 + (r : Int)) = 48 + (r : Int) := IntWalk.i64_in _ (by omega)
      have eu : IntKind.u8.wrap (48 + (r : Int)) = 48 + (r : Int) := IntWalk.u8_in _ (by omega)
      have Hr := Lib.hid hr; clear hr
      have hbl : (bin k i).length = k := bin_len k i
      go_wp2_with fail
      go_roundg (gk - 1)
      case rel => exact ⟨k + 1, by omega, by rw [HD.out]; simp, by go_num, by rw [HBn.out, ← Hr.out]; simp; apply ByteArray.ext; simp, hbel.alloc hbel.size _⟩
      case measure => omega
    · obtain rfl : gk = 0 := by omega
      obtain rfl : k = m := by omega
      go_wp2_with fail
      go_ret
      exact ⟨rfl, hbel⟩

set_option maxRecDepth 100000 in
set_option maxHeartbeats 1600000 in
theorem specBits_any (s : ByteArray) (w : World) (hs : s.size ≤ 1048576) :
    Calls Tryd.prog 13 #[.string s, .int .i64 (s.size : Nat)] w (Yd (Bits s) w) := by
  go_enter Tryd.func13, Tryd.ntmps13
  go_wp2_with fail
  go_loopg [5] s.size (fun q iv wr => ∃ k : Nat, k + q = s.size ∧ iv = .int .i64 (k : Nat) ∧ Hid (∀ (j : Nat) (b : UInt8), j < k → s.data.toList[j]? = some b → b = 48 ∨ b = 49) ∧ wr = w)
  case atStart => exact ⟨0, by omega, rfl, Lib.hid fun j b h => by omega, rfl⟩
  case round =>
    obtain ⟨k, hk, rfl, hq, rfl⟩ := hrel
    by_cases hk0 : k < s.size
    · have hb := Lib.hid (byte_at hk0)
      obtain ⟨b, hbb⟩ : ∃ b, b = s[k]'hk0 := ⟨_, rfl⟩
      by_cases h0 : b = 48
      · have f1 : (((s[k]'hk0).toNat : Int) != 48) = false := by rw [← hbb, h0]; rfl
        have HE := Lib.hid h0
        have HB := Lib.hid hbb
        clear h0 hbb
        go_wp2_with fail
        go_roundg (gk - 1)
        case rel => exact ⟨k + 1, by omega, by go_num, Lib.hid fun j c hj hc => by
          by_cases hjk : j < k
          · exact hq.out j c hjk hc
          · obtain rfl : j = k := by omega
            rw [hb.out] at hc
            cases hc
            rw [← HB.out]
            exact .inl HE.out, rfl⟩
        case measure => omega
      · have f1 : (((s[k]'hk0).toNat : Int) != 48) = true := by
          rw [← hbb]
          rw [bne_iff_ne]
          intro e
          exact h0 (UInt8.toNat_inj.1 (by have : b.toNat = 48 := by omega
                                          exact this))
        by_cases h1 : b = 49
        · have f2 : (((s[k]'hk0).toNat : Int) != 49) = false := by rw [← hbb, h1]; rfl
          have HE := Lib.hid h1
          have HB := Lib.hid hbb
          clear h0 h1 hbb
          go_wp2_with fail
          go_roundg (gk - 1)
          case rel => exact ⟨k + 1, by omega, by go_num, Lib.hid fun j c hj hc => by
            by_cases hjk : j < k
            · exact hq.out j c hjk hc
            · obtain rfl : j = k := by omega
              rw [hb.out] at hc
              cases hc
              rw [← HB.out]
              exact .inr HE.out, rfl⟩
          case measure => omega
        · have f2 : (((s[k]'hk0).toNat : Int) != 49) = true := by
            rw [← hbb]
            rw [bne_iff_ne]
            intro e
            exact h1 (UInt8.toNat_inj.1 (by have : b.toNat = 49 := by omega
                                            exact this))
          have HE := Lib.hid (show ¬ Bits s from fun h => by
            rcases h k _ hb.out with e | e
            · exact h0 (hbb.trans e)
            · exact h1 (hbb.trans e))
          clear h0 h1 hbb
          go_wp2_with fail
          go_ret
          exact Yd.no HE.out (Below.refl _ _)
    · obtain rfl : k = s.size := by omega
      go_wp2_with fail
      go_ret
      exact Yd.yes (fun j b hj => hq.out j b (by
        have := (List.getElem?_eq_some_iff.1 hj).1
        simpa using this) hj) (Below.refl _ _)

end Go.Proofs.YtfeejdbkolpjoaaDoor
