/-
  The model's decimal text of a small number (as in XM2, for a seat that has no arithmetic).
-/
import Derived.Test.YtoaiejodbmkbjaaGreatDoorHold
import Derived.Deep.LoopGhost
import Derived.Deep.RegionWith
import Derived.Laws.BytesArg
import Derived.Deep.DeepCutAuto
namespace Go.Proofs.YtoaiejodbmkbjaaGreatDoor
open Go.RowKit Num


/-- The decimal numeral of n, as bytes. -/
def decL (n : Nat) : List UInt8 := if n = 0 then [48] else (digs 10 n).reverse.map fun d => UInt8.ofNat (48 + d)

theorem decL_small (n : Nat) (h : n < 10) : decL n = [UInt8.ofNat (48 + n)] := by
  unfold decL
  by_cases h0 : n = 0
  · subst h0; rfl
  · rw [if_neg h0, digs_small 10 n (by omega) (by omega) h]; rfl

theorem decL_len (n : Nat) (h : n < 100000) : (decL n).length ≤ 5 := by
  unfold decL
  split
  · simp
  · rw [List.length_map, List.length_reverse, length_digs]
    exact ln_le_of_lt _ _ _ (by omega) h

theorem decL_step (n : Nat) (h : 10 ≤ n) : decL n = decL (n / 10) ++ [UInt8.ofNat (48 + n % 10)] := by
  unfold decL
  rw [if_neg (by omega), if_neg (by omega), digs_pos 10 n (by omega) (by omega)]
  simp

set_option maxHeartbeats 400000 in
/-- A string of one byte out of a slice of one byte. -/
theorem conv_box {W : World} {g : Nat} {c : Int} (h : Box W g 5 #[.int .u8 c]) : (convert 104 9 (.slice (some ⟨g, 0, none⟩) 1 1)).run Tryz.prog W = .ok (.string ⟨#[UInt8.ofNat c.toNat]⟩) W :=
  run_convert_bytes_arg (P := Tryz.prog) W 104 5 Tryz.underlying104 Tryz.underlying5 g 0 1 1 [c] rfl (fun i hi => by
    obtain rfl : i = 0 := by omega
    exact h.cell 0) 9 Tryz.underlying9

theorem built_drew {w w1 : World} {t : TypeId} {cs : Array Value} (hb : Below (w.alloc (.cells cs t)).drew.heap.size (w.alloc (.cells cs t)).drew w1) : Box w1 w.heap.size t cs :=
  Box.below (w := (w.alloc (.cells cs t)).drew) (Box.new w t cs) hb (by show _ < (w.alloc (.cells cs t)).heap.size; simp)

/-- .. out of a new one. -/
theorem conv_one (w : World) (c : Int) : (convert 104 9 (.slice (some ⟨w.heap.size, 0, none⟩) 1 1)).run Tryz.prog (w.alloc (.cells #[.int .u8 c] 5)) = .ok (.string ⟨#[UInt8.ofNat c.toNat]⟩) (w.alloc (.cells #[.int .u8 c] 5)) :=
  conv_box (Box.new w 5 #[.int .u8 c])

/-- .. behind a draw. -/
theorem conv_one_drew (w : World) (c : Int) : (convert 104 9 (.slice (some ⟨w.heap.size, 0, none⟩) 1 1)).run Tryz.prog (w.alloc (.cells #[.int .u8 c] 5)).drew = .ok (.string ⟨#[UInt8.ofNat c.toNat]⟩) (w.alloc (.cells #[.int .u8 c] 5)).drew :=
  conv_box (W := (w.alloc (.cells #[.int .u8 c] 5)).drew) (Box.new w 5 #[.int .u8 c])

set_option maxRecDepth 100000 in
theorem num_small (n : Nat) (w : World) (h : n < 10) :
    Calls Tryz.prog 40 #[.int .i64 (n : Nat)] w fun e w' => e = .returned (.string ⟨(decL n).toArray⟩) ∧ Below w.heap.size w w' := by
  have hcv := conv_one
  go_enter Tryz.func40, Tryz.ntmps40
  go_wp2_with fail
  go_ret
  exact ⟨by rw [decL_small n h]; simp, (Below.refl _ w).alloc (Nat.le_refl _) _⟩

/-- What one step of the model's numeral comes to. -/
theorem dec_join (n : Nat) (h : 10 ≤ n) : (⟨(decL (n / 10)).toArray⟩ : ByteArray) ++ ⟨#[UInt8.ofNat (48 + n % 10)]⟩ = ⟨(decL n).toArray⟩ := by
  rw [decL_step n h]
  apply ByteArray.ext
  simp

set_option maxRecDepth 100000 in
set_option maxHeartbeats 1600000 in
theorem num_step (n : Nat) (w : World) (h : 10 ≤ n) (hn : n < 10000)
    (ih : ∀ w : World, Calls Tryz.prog 40 #[.int .i64 ((n : Int) / 10)] w fun e w' => e = .returned (.string ⟨(decL (n / 10)).toArray⟩) ∧ Below w.heap.size w w') :
    Calls Tryz.prog 40 #[.int .i64 (n : Nat)] w fun e w' => e = .returned (.string ⟨(decL n).toArray⟩) ∧ Below w.heap.size w w' := by
  have hcv := conv_one
  have hcv2 := conv_one_drew
  have IH := Lib.hid ih; clear ih
  obtain ⟨r, hr⟩ : ∃ r, r = n % 10 := ⟨_, rfl⟩
  have hr10 : r < 10 := by omega
  have et : ((n : Int)).tmod 10 = (r : Int) := by rw [Int.tmod_eq_emod_of_nonneg (by omega)]; omega
  have eq : IntKind.i64.wrap ((n : Int) / 10) = (n : Int) / 10 := IntWalk.i64_in _ (by omega)
  have ew : IntKind.i64.wrap (48 + (r : Int)) = 48 + (r : Int) := IntWalk.i64_in _ (by omega)
  have eu : IntKind.u8.wrap (48 + (r : Int)) = 48 + (r : Int) := IntWalk.u8_in _ (by omega)
  have Hr := Lib.hid hr; clear hr
  have hdl : (decL (n / 10)).length ≤ 5 := decL_len _ (by omega)
  go_enter Tryz.func40, Tryz.ntmps40
  go_wp2_with fail
  go_region_with (go_at_call 40; refine (IH.out _).mono ?_; rintro e w1 ⟨rfl, hb1⟩; try (have hcv1 := conv_box (built_drew hb1)))
  all_goals clear et eq ew eu hcv hcv2
  all_goals go_wp2_with fail
  all_goals go_ret
  all_goals (refine ⟨(?_ : Ending.returned (Value.string ((⟨(decL (n / 10)).toArray⟩ : ByteArray) ++ ⟨#[48 + UInt8.ofNat r]⟩)) = _), ?_⟩; · rw [← dec_join n h, ← Hr.out]; simp)
  all_goals first
    | exact Below.alloc (a := w) (below_of_drew hb1) (by have := hb1.size; exact this) _
    | exact below_of_alloc_drew hb1

theorem num_any (n : Nat) (hn : n < 10000) (w : World) : Calls Tryz.prog 40 #[.int .i64 (n : Nat)] w fun e w' => e = .returned (.string ⟨(decL n).toArray⟩) ∧ Below w.heap.size w w' := by
  induction n using Nat.strongRecOn generalizing w with
  | ind n ih =>
    by_cases h : n < 10
    · exact num_small n w h
    · exact num_step n w (by omega) hn fun w => ih (n / 10) (by omega) (by omega) w

end Go.Proofs.YtoaiejodbmkbjaaGreatDoor
