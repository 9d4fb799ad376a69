/-
  The model's l1Split: the parts of a text between its slashes.
-/
import Derived.Test.YtmmonglcbkefmaaGreatDoorSumMulQ
namespace Go.Proofs.YtmmonglcbkefmaaGreatDoor
open Go.RowKit Num

/-- The parts that end before k, and where the next one begins. -/
def splS (s : ByteArray) : Nat → List ByteArray × Nat
  | 0 => ([], 0)
  | k + 1 => if byt s k = 47 then ((splS s k).1 ++ [s.extract (splS s k).2 k], k + 1) else splS s k
def parts (s : ByteArray) : List ByteArray := (splS s s.size).1 ++ [s.extract (splS s s.size).2 s.size]

theorem splS_le (s : ByteArray) (k : Nat) : (splS s k).2 ≤ k ∧ (splS s k).1.length ≤ k := by
  induction k with
  | zero => exact ⟨Nat.le_refl _, Nat.le_refl _⟩
  | succ k ih =>
    unfold splS
    split
    · refine ⟨Nat.le_refl _, ?_⟩
      simp only [List.length_append, List.length_cons, List.length_nil]
      omega
    · omega

theorem info_string : (Tryz.prog.info? 9).map (fun i => (i.zero, i.size, i.bytes)) = some (some (.string ⟨#[]⟩), 1, 16) := by kernel_rfl

theorem one_str (s : ByteArray) : ∀ u ∈ [Value.string s], u.oneCell' = true := by
  intro u hu
  rcases List.mem_singleton.1 hu with rfl
  rfl
theorem str_snoc {w1 : World} {base : Nat} {e : TypeId} {v' : Value} {pre : List ByteArray} {x : ByteArray} (hown' : w1.ownsRow base e 1 v' (pre.length + 1) (pre.map Value.string ++ [.string x])) :
    w1.ownsRow base e 1 v' (pre ++ [x]).length ((pre ++ [x]).map Value.string) := by
  simpa using hown'

set_option maxRecDepth 100000 in
set_option maxHeartbeats 1600000 in
theorem split_any (s : ByteArray) (w : World) (hs : s.size ≤ 1048576) :
    Calls Tryz.prog 74 #[.string s, .int .u8 47] w fun e w' => (∃ v, e = .returned v ∧ w'.ownsRow w.heap.size 9 1 v (parts s).length ((parts s).map Value.string)) ∧ Below w.heap.size w w' := by
  obtain ⟨i0, hi, hz0, hz1, hz2⟩ := info_parts info_string
  go_enter Tryz.func74, Tryz.ntmps74
  go_wp2_with fail
  go_loopw [5, 6, 7] (fun sv fv iv wr => ∃ (k : Nat) (ps : List ByteArray) (f : Nat), iv = .int .i64 (k : Nat) ∧ fv = .int .i64 (f : Nat) ∧ k ≤ s.size ∧ splS s k = (ps, f) ∧ wr.ownsRow w.heap.size 9 1 sv ps.length (ps.map Value.string) ∧ Below w.heap.size w wr) (fun _ _ iv _ => ((s.size : Int) - intOf iv).toNat)
  case atStart =>
    refine ⟨0, [], 0, rfl, rfl, Nat.zero_le _, rfl, ?_, Below.refl _ _⟩
    exact ⟨rfl, .inl ⟨rfl, rfl⟩⟩
  case round =>
    obtain ⟨k, ps, f, rfl, rfl, hk, hsp, hown, hbel⟩ := hrel
    have hle := splS_le s k
    rw [hsp] at hle
    obtain ⟨hf, hl⟩ := hle
    simp only at hf hl
    have HSP := Lib.hid hsp; clear hsp
    by_cases hk0 : k < s.size
    · have hb := byt_eq s k hk0
      have hst : splS s (k + 1) = if byt s k = 47 then (ps ++ [s.extract f k], k + 1) else (ps, f) := by
        rw [splS, HSP.out]
      by_cases h47 : byt s k = 47
      · rw [if_pos h47] at hst
        have HST := Lib.hid hst; clear hst
        have hz1' : ((byt s k : Int) == 47) = true := by rw [beq_iff_eq]; omega
        go_wp2_with (at_builtin; refine wpList_append_own _ rfl _ _ 104 rfl w.heap.size 9 i0 (.string ⟨#[]⟩) 1 16 Tryz.underlying104 hi hz0 hz1 hz2 rfl (by decide) _ _ _ rfl (hown.alloc _) ⟨wr.heap.size, 0, none⟩ 1 1 [.string (s.extract f k)] rfl rfl ?c1 ?c2 ?c3 ?c4 ?c5 ?_)
        case c1 => exact cell_one_new _ _ _
        case c2 => exact one_str _
        case c3 => unfold maxLen; omega
        case c4 => omega
        case c5 => have := hbel.size; simp; omega
        intro v' w1 hown' hgrow _
        have hb1 := below_grown_own hbel hbel.size (Nat.le_refl _) hown hgrow
        have ho1 := str_snoc hown'
        clear hown' hgrow hown hbel hb
        go_wp2_with fail
        go_roundw
        case rel => exact ⟨k + 1, ps ++ [s.extract f k], k + 1, by go_num, by go_num, by omega, HST.out, ho1, hb1⟩
        case measure => simp [intOf]; omega
      · rw [if_neg h47] at hst
        have HST := Lib.hid hst; clear hst
        have hz1' : ((byt s k : Int) == 47) = false := by rw [beq_eq_false_iff_ne]; omega
        go_wp2_with fail
        go_roundw
        case rel => exact ⟨k + 1, ps, f, by go_num, rfl, by omega, HST.out, hown, hbel⟩
        case measure => simp [intOf]; omega
    · obtain rfl : k = s.size := by omega
      have hp : parts s = ps ++ [s.extract f s.size] := by unfold parts; rw [HSP.out]
      have HPs := Lib.hid hp; clear hp
      go_wp2_with (at_builtin; refine wpList_append_own _ rfl _ _ 104 rfl w.heap.size 9 i0 (.string ⟨#[]⟩) 1 16 Tryz.underlying104 hi hz0 hz1 hz2 rfl (by decide) _ _ _ rfl (hown.alloc _) ⟨wr.heap.size, 0, none⟩ 1 1 [.string (s.extract f s.size)] rfl rfl ?c1 ?c2 ?c3 ?c4 ?c5 ?_)
      case c1 => exact cell_one_new _ _ _
      case c2 => exact one_str _
      case c3 => unfold maxLen; omega
      case c4 => omega
      case c5 => have := hbel.size; simp; omega
      intro v' w1 hown' hgrow _
      have hb1 := below_grown_own hbel hbel.size (Nat.le_refl _) hown hgrow
      have ho1 := str_snoc hown'
      clear hown' hgrow hown hbel
      go_wp2_with fail
      go_ret
      exact ⟨⟨_, rfl, by rw [HPs.out]; exact ho1⟩, hb1⟩

end Go.Proofs.YtmmonglcbkefmaaGreatDoor
