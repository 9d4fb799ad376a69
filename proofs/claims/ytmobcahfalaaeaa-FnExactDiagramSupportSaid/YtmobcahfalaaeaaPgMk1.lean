/-
  Marking: the law's marks of a copy's lists. (Written by gen_pgmk.py.)
-/
import Derived.Test.YtmobcahfalaaeaaPgMk0
import Derived.Deep.LoopGhost
namespace Go.Proofs.Ytmobcahfalaaeaa
open Go.RowKit Num

set_option maxHeartbeats 400000 in
/-- A string of one byte out of a new slice of one byte. -/
theorem conv_mark (w : World) (c : Int) : (convert 66 9 (.slice (some ⟨w.heap.size, 0, none⟩) 1 1)).run Try.prog (w.alloc (.cells #[.int .u8 c] 5)) = .ok (.string ⟨#[UInt8.ofNat c.toNat]⟩) (w.alloc (.cells #[.int .u8 c] 5)) :=
  run_convert_bytes_arg (P := Try.prog) (w.alloc (.cells #[.int .u8 c] 5)) 66 5 Try.underlying66 Try.underlying5 w.heap.size 0 1 1 [c] rfl (fun i hi => by
    obtain rfl : i = 0 := by omega
    exact (Box.new w 5 #[.int .u8 c]).cell 0) 9 Try.underlying9

set_option maxRecDepth 100000 in
set_option maxHeartbeats 3200000 in
theorem markIntS_any (lo hi : Nat) (A0 : Option Addr) (n cap : Nat) (k0 : Int) (w : World) (hn : n ≤ 1048576) (hk : 0 ≤ k0 ∧ k0 ≤ 100000000000000000) (h : ShI lo hi w A0 n) :
    Calls Try.prog 34 #[.slice A0 n cap, .int .i64 k0] w fun e w' => e = .returned (.int .i64 (k0 + (n : Int))) ∧ Marks lo hi w w' := by
  have H := Lib.hid h
  clear h
  go_enter Try.func34, Try.ntmps34
  go_wp2_with fail
  go_loopg [1, 5] n (fun q kv iv wr => ∃ (k : Nat) (x : Int), k + q = n ∧ iv = .int .i64 (k : Nat) ∧ kv = .int .i64 x ∧ Hid (x = k0 + (k : Int)) ∧ Marks lo hi w wr)
  case atStart => exact ⟨0, k0, by omega, rfl, rfl, Lib.hid (by omega), Marks.refl _ _ _⟩
  case round =>
    obtain ⟨k, x, hkq, rfl, rfl, hx, hmk⟩ := hrel
    by_cases hk0 : k < n
    · have hn0 : 0 < n := by omega
      obtain ⟨b0, off0, e0, hfw, hcw⟩ := H.out hn0
      have hwr := H.out.marks hmk
      obtain ⟨b, off, rfl, hf, hc⟩ := hwr hn0
      injection e0 with e0
      injection e0 with e1 e2 _
      subst e1 e2
      obtain ⟨z0, r0⟩ := hc k hk0
      have f0 := hf.2.2 (off + k)
      have hf0 := hfw.1
      obtain ⟨y0, R0⟩ := hcw k hk0
      have hx1 : 0 ≤ x ∧ x ≤ 200000000000000000 := by have := hx.out; omega
      have w0 : IntKind.i64.wrap (x + 1) = x + 1 := IntWalk.i64_in _ (by omega)
      clear hwr hc hcw hf hfw
      go_wp2_with fail
      go_roundg (gk - 1)
      case rel => exact ⟨k + 1, _, by omega, by go_num, rfl, Lib.hid (by have := hx.out; omega), (hmk.put R0 hf0 _)⟩
      case measure => omega
    · obtain rfl : k = n := by omega
      go_wp2_with fail
      go_ret
      exact ⟨congrArg (fun z => Ending.returned (.int .i64 z)) hx.out, hmk⟩

end Go.Proofs.Ytmobcahfalaaeaa
