/-
  The words between operands, the program's brackets, its decimal texts of small numbers.
-/
import Derived.Test.YtoaiejodbmkbjaaGreatDoorFxB
import Derived.Test.YtoaiejodbmkbjaaGreatDoorPgIm1
import Derived.Test.YtoaiejodbmkbjaaGreatDoorShelf
namespace Go.Proofs.YtoaiejodbmkbjaaGreatDoor
open Go.RowKit Num

set_option maxRecDepth 100000 in
set_option maxHeartbeats 1600000 in
theorem l4Ops_any (w : World) : Calls Tryz.prog 41 #[] w fun e w' => (∃ A0, e = .returned (.slice A0 7 7) ∧ StL 0 w' A0 7 fun j => opW (3 + (j : Int))) ∧ Below w.heap.size w w' := by
  go_enter Tryz.func41, Tryz.ntmps41
  go_wp2_with fail
  go_ret
  refine ⟨⟨_, rfl, fun _ => ⟨_, _, rfl, ⟨Nat.zero_le _, by simp⟩, ?_⟩⟩, (Below.refl _ w).alloc (Nat.le_refl _) _⟩
  intro j hj
  rw [Box.cell (Box.new w _ _)]
  have h7 : j = 0 ∨ j = 1 ∨ j = 2 ∨ j = 3 ∨ j = 4 ∨ j = 5 ∨ j = 6 := by omega
  rcases h7 with rfl | rfl | rfl | rfl | rfl | rfl | rfl <;> rfl

set_option maxRecDepth 100000 in
set_option maxHeartbeats 1600000 in
theorem opWords_any (w : World) : Calls Tryz.prog 75 #[] w fun e w' => (∃ A0, e = .returned (.slice A0 10 10) ∧ StL 0 w' A0 10 fun j => opW (j : Int)) ∧ Below w.heap.size w w' := by
  go_enter Tryz.func75, Tryz.ntmps75
  go_wp2_with fail
  go_ret
  refine ⟨⟨_, rfl, fun _ => ⟨_, _, rfl, ⟨Nat.zero_le _, by simp⟩, ?_⟩⟩, (Below.refl _ w).alloc (Nat.le_refl _) _⟩
  intro j hj
  rw [Box.cell (Box.new w _ _)]
  have h10 : j = 0 ∨ j = 1 ∨ j = 2 ∨ j = 3 ∨ j = 4 ∨ j = 5 ∨ j = 6 ∨ j = 7 ∨ j = 8 ∨ j = 9 := by omega
  rcases h10 with rfl | rfl | rfl | rfl | rfl | rfl | rfl | rfl | rfl | rfl <;> rfl

theorem dec_small : ∀ n, n < 21 → Lib.decDigits n = decL n := fun n hn => by
  have h10 : ∀ m, m < 10 → Lib.decDigits m = decL m := fun m hm => by
    rw [decL_small m hm, Lib.decDigits]
    simp [hm]
  by_cases h : n < 10
  · exact h10 n h
  · rw [decL_step n (by omega), Lib.decDigits, dif_neg h, h10 (n / 10) (by omega)]

theorem itoa_any (v : Int) (w : World) (h0 : 0 ≤ v) (h1 : v ≤ 20) :
    Calls Tryz.prog 73 #[.int .i64 v] w fun e w' => e = .returned (.string ⟨(decL v.toNat).toArray⟩) ∧ w = w' := by
  obtain ⟨n, rfl⟩ : ∃ n : Nat, v = n := ⟨v.toNat, by omega⟩
  refine (Tryz.strconv_Itoa_small n (by omega) w).mono ?_
  rintro e w' ⟨rfl, rfl⟩
  exact ⟨by rw [dec_small n (by omega)]; rfl, rfl⟩

theorem clone_any (s : ByteArray) (w : World) (hs : s.size ≤ 281474976710656) :
    Calls Tryz.prog 26 #[.string s] w fun e w' => e = .returned (.string s) ∧ Below w.heap.size w w' := by
  have C := Lib.hid (Tryz.stringslite_Clone s w hs)
  go_enter Tryz.func26, Tryz.ntmps26
  go_wp2_with (go_at_call 52; refine C.out.mono ?_; rintro e w1 ⟨rfl, hb⟩)
  go_ret
  exact ⟨rfl, hb⟩

/-- The brackets' answer: nothing, if one of the texts is empty; or the joined texts in brackets. -/
def BrkPost (xs : List ByteArray) (w : World) (e : Ending) (w' : World) : Prop :=
  ∃ s, e = .returned (.string s) ∧ Hid ((⟨#[]⟩ ∈ xs → s = ⟨#[]⟩) ∧ (⟨#[]⟩ ∉ xs → s = ((⟨#[40]⟩ : ByteArray) ++ ⟨(Lib.join (xs.map (·.data.toList)) [32]).toArray⟩) ++ ⟨#[41]⟩)) ∧ Below w.heap.size w w'

set_option maxRecDepth 100000 in
set_option maxHeartbeats 1600000 in
theorem brk_any (g : Nat) (xs : List ByteArray) (w : World) (hcells : ∀ (j : Nat) x, xs[j]? = some x → w.cell? ⟨g, 0 + j, none⟩ = some (.string x)) (hg : g < w.heap.size) (hN : xs.length ≤ 10) (hlen : (Lib.join (xs.map (·.data.toList)) [32]).length ≤ 1048576) :
    Calls Tryz.prog 74 #[.slice (some ⟨g, 0, none⟩) xs.length xs.length] w (BrkPost xs w) := by
  have hget : ∀ j, j < xs.length → xs[j]? = some (xs.getD j ⟨#[]⟩) := fun j hj => by rw [List.getD, List.getElem?_eq_getElem hj]; rfl
  have HA : StL 0 w (some ⟨g, 0, none⟩) xs.length (fun j => xs.getD j ⟨#[]⟩) := fun _ => ⟨g, 0, rfl, ⟨Nat.zero_le _, hg⟩, fun j hj => hcells j _ (hget j hj)⟩
  have C1 := Lib.hid (hasStr_any 0 (some ⟨g, 0, none⟩) xs.length xs.length _ ⟨#[]⟩ w (by omega) HA)
  have C2 : Hid (∀ W, Below w.heap.size w W → _) := Lib.hid fun W hW => Tryz.strings_Join g 0 xs.length xs ⟨#[32]⟩ W (fun j x hx => (hW.cell hg).trans (hcells j x hx)) (Nat.lt_of_lt_of_le hg hW.size) (by omega) (Nat.le_refl _) (by simp only; omega)
  have hmem : (∃ j, j < xs.length ∧ xs.getD j ⟨#[]⟩ = ⟨#[]⟩) ↔ (⟨#[]⟩ : ByteArray) ∈ xs := by
    constructor
    · rintro ⟨j, hj, e⟩
      rw [List.getD, List.getElem?_eq_getElem hj] at e
      exact List.mem_of_getElem (h := hj) e
    · intro h
      obtain ⟨j, hj, e⟩ := List.getElem_of_mem h
      exact ⟨j, hj, by rw [List.getD, List.getElem?_eq_getElem hj]; exact e⟩
  have HM := Lib.hid hmem
  have hz1 : 1 + (Lib.join (xs.map (·.data.toList)) [32]).length ≤ 9223372036854775807 := by omega
  have hz2 : 1 + (Lib.join (xs.map (·.data.toList)) [32]).length + 1 ≤ 9223372036854775807 := by omega
  clear hget hmem hcells HA
  go_enter Tryz.func74, Tryz.ntmps74
  by_cases hm : (⟨#[]⟩ : ByteArray) ∈ xs
  · go_wp2_with (go_at_call 81; refine C1.out.mono ?_; rintro e w1 ⟨b, rfl, hbq, hb1⟩; obtain rfl : b = true := hbq.out.2 (HM.out.2 hm))
    go_ret
    exact ⟨_, rfl, Lib.hid ⟨fun _ => rfl, fun h => absurd hm h⟩, hb1⟩
  · go_wp2_with (first
      | (go_at_call 81; refine C1.out.mono ?_; rintro e w1 ⟨b, rfl, hbq, hb1⟩; obtain rfl : b = false := (by cases b; rfl; exact absurd (HM.out.1 (hbq.out.1 rfl)) hm))
      | (go_at_call 86; refine (C2.out _ hb1).mono ?_; rintro e w2 ⟨rfl, hb2⟩))
    go_ret
    exact ⟨_, rfl, Lib.hid ⟨fun h => absurd h hm, fun _ => rfl⟩, hb1.trans (hb2.mono hb1.size)⟩

end Go.Proofs.YtoaiejodbmkbjaaGreatDoor
