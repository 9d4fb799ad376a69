/-
  Marking: the law's marks of a copy's lists. (Written by gen_pgmk.py.)
-/
import Derived.Test.YtdeilceakhgjlaaGreatPgMk0
import Derived.Deep.LoopGhost
namespace Go.Proofs.YtdeilceakhgjlaaGreat
open Go.RowKit Num

set_option maxHeartbeats 400000 in
/-- A string of one byte out of a new slice of one byte. -/
theorem conv_mark (w : World) (c : Int) : (convert 228 9 (.slice (some ⟨w.heap.size, 0, none⟩) 1 1)).run Tryz.prog (w.alloc (.cells #[.int .u8 c] 5)) = .ok (.string ⟨#[UInt8.ofNat c.toNat]⟩) (w.alloc (.cells #[.int .u8 c] 5)) :=
  run_convert_bytes_arg (P := Tryz.prog) (w.alloc (.cells #[.int .u8 c] 5)) 228 5 Tryz.underlying228 Tryz.underlying5 w.heap.size 0 1 1 [c] rfl (fun i hi => by
    obtain rfl : i = 0 := by omega
    exact (Box.new w 5 #[.int .u8 c]).cell 0) 9 Tryz.underlying9

set_option maxRecDepth 100000 in
set_option maxHeartbeats 1600000 in
theorem markText_any (k : Int) (w : World) (hk : 0 ≤ k ∧ k ≤ 1000000000000000000) :
    Calls Tryz.prog 130 #[.int .i64 k] w fun e w' => (∃ s, e = .returned (.string s)) ∧ Below w.heap.size w w' := by
  obtain ⟨n, rfl⟩ : ∃ n : Nat, k = (n : Int) := ⟨k.toNat, by omega⟩
  have hn : n < 10 ^ 19 := by omega
  have hcv := conv_mark
  by_cases h0 : n = 0
  · subst h0
    clear hk hn
    go_enter Tryz.func130, Tryz.ntmps130
    go_wp2_with fail
    go_ret
    exact ⟨⟨_, rfl⟩, Below.refl _ _⟩
  · have d0 : decide ((n : Int) ≤ 0) = false := decide_eq_false (by omega)
    have HN := Lib.hid (show n < 10 ^ 19 ∧ n ≤ 1000000000000000000 from ⟨hn, by omega⟩)
    clear hk hn
    go_enter Tryz.func130, Tryz.ntmps130
    go_wp2_with fail
    go_loopg [0, 3] 19 (fun q kv sv wr => ∃ (x : Nat) (s : ByteArray), kv = .int .i64 (x : Nat) ∧ sv = .string s ∧ Hid (x < 10 ^ q ∧ x ≤ 1000000000000000000) ∧ s.size + q ≤ 19 ∧ Below w.heap.size w wr)
    case atStart => exact ⟨n, _, rfl, rfl, HN, by show 0 + 19 ≤ 19; omega, Below.refl _ _⟩
    case round =>
      obtain ⟨x, s, rfl, rfl, hx, hs, hbel⟩ := hrel
      by_cases hx0 : x = 0
      · have d2 : decide ((0 : Int) < (x : Int)) = false := decide_eq_false (by omega)
        have q1 : ¬ 9223372036854775807 < 1 + s.size := by omega
        have q2 : ¬ 9223372036854775807 < s.size + 1 := by omega
        go_wp2_with fail
        go_ret
        exact ⟨⟨_, rfl⟩, hbel⟩
      · have d2 : decide ((0 : Int) < (x : Int)) = true := decide_eq_true (by omega)
        have hg : gk ≠ 0 := by
          intro h
          have := hx.out.1
          rw [h] at this
          omega
        have hal := (Below.refl wr.heap.size wr).alloc (Nat.le_refl _) (.cells #[.int .u8 (48 + (x : Int) % 10)] 5)
        have hxd : x / 10 < 10 ^ (gk - 1) := by
          have h1 := hx.out.1
          obtain ⟨g, rfl⟩ : ∃ g, gk = g + 1 := ⟨gk - 1, by omega⟩
          rw [Nat.pow_succ] at h1
          show x / 10 < 10 ^ g
          exact Nat.div_lt_of_lt_mul (by omega)
        have HXD := Lib.hid (show x / 10 < 10 ^ (gk - 1) ∧ x / 10 ≤ 1000000000000000000 from ⟨hxd, by have := hx.out.2; omega⟩)
        have HW : Hid (wrap64 ((x : Int) / 10) = ((x / 10 : Nat) : Int)) := Lib.hid ((IntWalk.wrap64_in _ (by have := hx.out.2; omega)).trans (by omega))
        have q1 : ¬ 9223372036854775807 < 1 + s.size := by omega
        have q2 : ¬ 9223372036854775807 < s.size + 1 := by omega
        clear hx hxd
        go_wp2_with fail
        go_roundg (gk - 1)
        case rel => exact ⟨x / 10, _, congrArg (Value.int .i64) HW.out, rfl, HXD, by rw [ByteArray.size_append]; show 1 + _ + _ ≤ _; omega, hbel.trans (hal.mono hbel.size)⟩
        case measure => omega

set_option maxRecDepth 100000 in
set_option maxHeartbeats 3200000 in
theorem markIntS_any (lo hi : Nat) (A0 : Option Addr) (n cap : Nat) (k0 : Int) (w : World) (hn : n ≤ 1048576) (hk : 0 ≤ k0 ∧ k0 ≤ 100000000000000000) (h : ShI lo hi w A0 n) :
    Calls Tryz.prog 30 #[.slice A0 n cap, .int .i64 k0] w fun e w' => e = .returned (.int .i64 (k0 + (n : Int))) ∧ Marks lo hi w w' := by
  have H := Lib.hid h
  clear h
  go_enter Tryz.func30, Tryz.ntmps30
  go_wp2_with fail
  go_loopg [1, 5] n (fun q kv iv wr => ∃ (k : Nat) (x : Int), k + q = n ∧ iv = .int .i64 (k : Nat) ∧ kv = .int .i64 x ∧ Hid (x = k0 + (k : Int)) ∧ Marks lo hi w wr)
  case atStart => exact ⟨0, k0, by omega, rfl, rfl, Lib.hid (by omega), Marks.refl _ _ _⟩
  case round =>
    obtain ⟨k, x, hkq, rfl, rfl, hx, hmk⟩ := hrel
    by_cases hk0 : k < n
    · have hn0 : 0 < n := by omega
      obtain ⟨b0, off0, e0, hfw, hcw⟩ := H.out hn0
      have hwr := H.out.marks hmk
      obtain ⟨b, off, rfl, hf, hc⟩ := hwr hn0
      injection e0 with e0
      injection e0 with e1 e2 _
      subst e1 e2
      obtain ⟨z0, r0⟩ := hc k hk0
      have f0 := hf.2.2 (off + k)
      have hf0 := hfw.1
      obtain ⟨y0, R0⟩ := hcw k hk0
      have hx1 : 0 ≤ x ∧ x ≤ 200000000000000000 := by have := hx.out; omega
      have w0 : IntKind.i64.wrap (x + 1) = x + 1 := IntWalk.i64_in _ (by omega)
      clear hwr hc hcw hf hfw
      go_wp2_with fail
      go_roundg (gk - 1)
      case rel => exact ⟨k + 1, _, by omega, by go_num, rfl, Lib.hid (by have := hx.out; omega), (hmk.put R0 hf0 _)⟩
      case measure => omega
    · obtain rfl : k = n := by omega
      go_wp2_with fail
      go_ret
      exact ⟨congrArg (fun z => Ending.returned (.int .i64 z)) hx.out, hmk⟩

set_option maxRecDepth 100000 in
set_option maxHeartbeats 3200000 in
theorem markChoiceS_any (lo hi : Nat) (A0 : Option Addr) (n cap : Nat) (k0 : Int) (w : World) (hn : n ≤ 1048576) (hk : 0 ≤ k0 ∧ k0 ≤ 100000000000000000) (h : ShC lo hi w A0 n) :
    Calls Tryz.prog 131 #[.slice A0 n cap, .int .i64 k0] w fun e w' => e = .returned (.int .i64 (k0 + 2 * (n : Int))) ∧ Marks lo hi w w' := by
  have H := Lib.hid h
  clear h
  go_enter Tryz.func131, Tryz.ntmps131
  go_wp2_with fail
  go_loopg [1, 5] n (fun q kv iv wr => ∃ (k : Nat) (x : Int), k + q = n ∧ iv = .int .i64 (k : Nat) ∧ kv = .int .i64 x ∧ Hid (x = k0 + 2 * (k : Int)) ∧ Marks lo hi w wr)
  case atStart => exact ⟨0, k0, by omega, rfl, rfl, Lib.hid (by omega), Marks.refl _ _ _⟩
  case round =>
    obtain ⟨k, x, hkq, rfl, rfl, hx, hmk⟩ := hrel
    by_cases hk0 : k < n
    · have hn0 : 0 < n := by omega
      obtain ⟨b0, off0, e0, hfw, hcw⟩ := H.out hn0
      have hwr := H.out.marks hmk
      obtain ⟨b, off, rfl, hf, hc⟩ := hwr hn0
      injection e0 with e0
      injection e0 with e1 e2 _
      subst e1 e2
      obtain ⟨⟨z0, r0⟩, ⟨z1, r1⟩⟩ := hc k hk0
      have f0 := hf.2.2 (off + k * 2)
      have f1 := hf.2.2 (off + k * 2 + 1)
      have hf0 := hfw.1
      obtain ⟨⟨y0, R0⟩, ⟨y1, R1⟩⟩ := hcw k hk0
      have hx1 : 0 ≤ x ∧ x ≤ 200000000000000000 := by have := hx.out; omega
      have w0 : IntKind.i64.wrap (x + 1) = x + 1 := IntWalk.i64_in _ (by omega)
      have w1 : IntKind.i64.wrap (x + 1 + 1) = x + 2 := by rw [IntWalk.i64_in _ (by omega)]; omega
      clear hwr hc hcw hf hfw
      go_wp2_with fail
      go_roundg (gk - 1)
      case rel => exact ⟨k + 1, _, by omega, by go_num, rfl, Lib.hid (by have := hx.out; omega), ((hmk.put R0 hf0 _).put R1 hf0 _)⟩
      case measure => omega
    · obtain rfl : k = n := by omega
      go_wp2_with fail
      go_ret
      exact ⟨congrArg (fun z => Ending.returned (.int .i64 z)) hx.out, hmk⟩

set_option maxRecDepth 100000 in
set_option maxHeartbeats 3200000 in
theorem markVarS_any (lo hi : Nat) (A0 : Option Addr) (n cap : Nat) (k0 : Int) (w : World) (hn : n ≤ 1048576) (hk : 0 ≤ k0 ∧ k0 ≤ 100000000000000000) (h : ShV lo hi w A0 n) :
    Calls Tryz.prog 71 #[.slice A0 n cap, .int .i64 k0] w fun e w' => e = .returned (.int .i64 (k0 + 2 * (n : Int))) ∧ Marks lo hi w w' := by
  have H := Lib.hid h
  clear h
  go_enter Tryz.func71, Tryz.ntmps71
  go_wp2_with fail
  go_loopg [1, 5] n (fun q kv iv wr => ∃ (k : Nat) (x : Int), k + q = n ∧ iv = .int .i64 (k : Nat) ∧ kv = .int .i64 x ∧ Hid (x = k0 + 2 * (k : Int)) ∧ Marks lo hi w wr)
  case atStart => exact ⟨0, k0, by omega, rfl, rfl, Lib.hid (by omega), Marks.refl _ _ _⟩
  case round =>
    obtain ⟨k, x, hkq, rfl, rfl, hx, hmk⟩ := hrel
    by_cases hk0 : k < n
    · have hn0 : 0 < n := by omega
      obtain ⟨b0, off0, e0, hfw, hcw⟩ := H.out hn0
      have hwr := H.out.marks hmk
      obtain ⟨b, off, rfl, hf, hc⟩ := hwr hn0
      injection e0 with e0
      injection e0 with e1 e2 _
      subst e1 e2
      obtain ⟨⟨z0, r0⟩, ⟨z1, r1⟩⟩ := hc k hk0
      have f0 := hf.2.2 (off + k * 2)
      have f1 := hf.2.2 (off + k * 2 + 1)
      have hf0 := hfw.1
      obtain ⟨⟨y0, R0⟩, ⟨y1, R1⟩⟩ := hcw k hk0
      have hx1 : 0 ≤ x ∧ x ≤ 200000000000000000 := by have := hx.out; omega
      have w0 : IntKind.i64.wrap (x + 1) = x + 1 := IntWalk.i64_in _ (by omega)
      have w1 : IntKind.i64.wrap (x + 1 + 1) = x + 2 := by rw [IntWalk.i64_in _ (by omega)]; omega
      have h5 : Hid (∀ {W}, Marks lo hi wr W → ShV lo hi W (some ⟨b, off, none⟩) n) := Lib.hid fun m => hwr.marks m
      clear hwr hc hcw hf hfw
      go_wp2_with (go_at_call 130; refine (markText_any x _ (by omega)).mono ?_; rintro e w5 ⟨⟨s5, rfl⟩, hb5⟩; have hmk5 := (Marks.refl lo hi wr).step hb5; have hmw := hmk.step hb5; clear r0 r1 f0 f1; obtain ⟨b', off', e', hf5, hc5⟩ := (h5.out hmk5) hn0; injection e' with e'; injection e' with e1 e2 _; subst e1 e2; obtain ⟨⟨z0, r0⟩, ⟨z1, r1⟩⟩ := hc5 k hk0; have f0 := hf5.2.2 (off + k * 2); have f1 := hf5.2.2 (off + k * 2 + 1))
      go_roundg (gk - 1)
      case rel => exact ⟨k + 1, _, by omega, by go_num, rfl, Lib.hid (by have := hx.out; omega), ((hmw.putS R0 hf0 _).put R1 hf0 _)⟩
      case measure => omega
    · obtain rfl : k = n := by omega
      go_wp2_with fail
      go_ret
      exact ⟨congrArg (fun z => Ending.returned (.int .i64 z)) hx.out, hmk⟩

set_option maxRecDepth 100000 in
set_option maxHeartbeats 3200000 in
theorem markExprS_any (lo hi : Nat) (A0 : Option Addr) (n cap : Nat) (k0 : Int) (w : World) (hn : n ≤ 1048576) (hk : 0 ≤ k0 ∧ k0 ≤ 100000000000000000) (h : ShX lo hi w A0 n) :
    Calls Tryz.prog 72 #[.slice A0 n cap, .int .i64 k0] w fun e w' => e = .returned (.int .i64 (k0 + 4 * (n : Int))) ∧ Marks lo hi w w' := by
  have H := Lib.hid h
  clear h
  go_enter Tryz.func72, Tryz.ntmps72
  go_wp2_with fail
  go_loopg [1, 5] n (fun q kv iv wr => ∃ (k : Nat) (x : Int), k + q = n ∧ iv = .int .i64 (k : Nat) ∧ kv = .int .i64 x ∧ Hid (x = k0 + 4 * (k : Int)) ∧ Marks lo hi w wr)
  case atStart => exact ⟨0, k0, by omega, rfl, rfl, Lib.hid (by omega), Marks.refl _ _ _⟩
  case round =>
    obtain ⟨k, x, hkq, rfl, rfl, hx, hmk⟩ := hrel
    by_cases hk0 : k < n
    · have hn0 : 0 < n := by omega
      obtain ⟨b0, off0, e0, hfw, hcw⟩ := H.out hn0
      have hwr := H.out.marks hmk
      obtain ⟨b, off, rfl, hf, hc⟩ := hwr hn0
      injection e0 with e0
      injection e0 with e1 e2 _
      subst e1 e2
      obtain ⟨⟨z0, r0⟩, ⟨z1, r1⟩, ⟨z2, r2⟩, ⟨z3, r3⟩⟩ := hc k hk0
      have f0 := hf.2.2 (off + k * 4)
      have f1 := hf.2.2 (off + k * 4 + 1)
      have f2 := hf.2.2 (off + k * 4 + 2)
      have f3 := hf.2.2 (off + k * 4 + 3)
      have hf0 := hfw.1
      obtain ⟨⟨y0, R0⟩, ⟨y1, R1⟩, ⟨y2, R2⟩, ⟨y3, R3⟩⟩ := hcw k hk0
      have hx1 : 0 ≤ x ∧ x ≤ 200000000000000000 := by have := hx.out; omega
      have w0 : IntKind.i64.wrap (x + 1) = x + 1 := IntWalk.i64_in _ (by omega)
      have w1 : IntKind.i64.wrap (x + 1 + 1) = x + 2 := by rw [IntWalk.i64_in _ (by omega)]; omega
      have w2 : IntKind.i64.wrap (x + 2 + 1) = x + 3 := by rw [IntWalk.i64_in _ (by omega)]; omega
      have w3 : IntKind.i64.wrap (x + 3 + 1) = x + 4 := by rw [IntWalk.i64_in _ (by omega)]; omega
      clear hwr hc hcw hf hfw
      go_wp2_with fail
      go_roundg (gk - 1)
      case rel => exact ⟨k + 1, _, by omega, by go_num, rfl, Lib.hid (by have := hx.out; omega), ((((hmk.put R0 hf0 _).put R1 hf0 _).put R2 hf0 _).put R3 hf0 _)⟩
      case measure => omega
    · obtain rfl : k = n := by omega
      go_wp2_with fail
      go_ret
      exact ⟨congrArg (fun z => Ending.returned (.int .i64 z)) hx.out, hmk⟩

end Go.Proofs.YtdeilceakhgjlaaGreat
