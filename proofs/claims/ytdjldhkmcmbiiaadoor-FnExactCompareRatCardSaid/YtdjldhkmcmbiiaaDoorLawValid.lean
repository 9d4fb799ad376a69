/-
  The law on IsValidRat: the program answers as the model, whatever the Rat.
-/
import Derived.Test.YtdjldhkmcmbiiaaDoorFracAll
namespace Go.Proofs.YtdjldhkmcmbiiaaDoor
open Go.RowKit Num

set_option maxRecDepth 100000 in
set_option maxHeartbeats 1600000 in
theorem szRat_any (b : Bool) (x y : ByteArray) (n : Int) (w : World) (hn : n ≤ 1048576) (hn0 : -1 ≤ n) (hx : x.size ≤ 9223372036854775807) (hy : y.size ≤ 9223372036854775807) :
    Calls Tryd.prog 14 #[.agg #[.bool b, .string x, .string y], .int .i64 n] w fun e w' => (∃ m : Int, e = .returned (.int .i64 m) ∧ -1 ≤ m ∧ m ≤ 1048576 ∧ (0 ≤ m → (x.size : Int) ≤ n ∧ (y.size : Int) ≤ n)) ∧ Below w.heap.size w w' := by
  have hbox := Box.new w 23 #[.bool b, .string x, .string y]
  obtain ⟨r0, r1, r2, _, _, _⟩ := hbox.three
  have w1 : IntKind.i64.wrap (n - (x.size : Int)) = n - (x.size : Int) := IntWalk.i64_in _ (by omega)
  by_cases h1 : n - (x.size : Int) < 0
  · go_enter Tryd.func14, Tryd.ntmps14
    go_wp2_with fail
    all_goals first
      | (go_ret; exact ⟨⟨-1, rfl, by omega, by omega, fun h => absurd h (by decide)⟩, (Below.refl _ w).alloc (Nat.le_refl _) _⟩)
      | (exfalso; omega)
  · have w2 : IntKind.i64.wrap (n - (x.size : Int) - (y.size : Int)) = n - (x.size : Int) - (y.size : Int) := IntWalk.i64_in _ (by omega)
    by_cases h2 : n - (x.size : Int) - (y.size : Int) < 0
    · go_enter Tryd.func14, Tryd.ntmps14
      go_wp2_with fail
      all_goals first
        | (go_ret; exact ⟨⟨-1, rfl, by omega, by omega, fun h => absurd h (by decide)⟩, (Below.refl _ w).alloc (Nat.le_refl _) _⟩)
        | (exfalso; omega)
    · go_enter Tryd.func14, Tryd.ntmps14
      go_wp2_with fail
      all_goals first
        | (go_ret; exact ⟨⟨n - (x.size : Int) - (y.size : Int), rfl, by omega, by omega, fun h => ⟨by omega, by omega⟩⟩, (Below.refl _ w).alloc (Nat.le_refl _) _⟩)
        | (exfalso; omega)

set_option maxRecDepth 100000 in
set_option maxHeartbeats 1600000 in
theorem toRat_any (b : Bool) (x y : ByteArray) (w : World) :
    Calls Tryd.prog 16 #[.agg #[.bool b, .string x, .string y]] w fun e w' => e = .returned (.agg #[.bool b, .string x, .string y]) ∧ Below w.heap.size w w' := by
  have hbox := Box.new w 23 #[.bool b, .string x, .string y]
  obtain ⟨r0, r1, r2, _, _, _⟩ := hbox.three
  go_enter Tryd.func16, Tryd.ntmps16
  go_wp2_with fail
  have hb2 := (Box.new (w.alloc (.cells #[.bool b, .string x, .string y] 23)) 26 #[.bool b, .string x, .string y]).alloc (.cells #[.bool b, .string x, .string y] 26)
  rw [show (w.alloc (.cells #[.bool b, .string x, .string y] 23)).heap.size = w.heap.size + 1 by simp] at hb2
  obtain ⟨k0, k1, k2, _, _, _⟩ := hb2.three
  refine bodyPost_ret (v := .agg #[.bool b, .string x, .string y]) (by simp [results, Tryd.results16, go_sem, k0, k1, k2]; done) rfl ⟨rfl, ?_⟩
  exact (((Below.refl _ w).alloc (Nat.le_refl _) _).alloc (by simp) _).alloc (by simp; omega) _

set_option maxRecDepth 100000 in
set_option maxHeartbeats 1600000 in
theorem lawValid_any (b : Bool) (x y : ByteArray) (w : World) (hU : UnitB w) (hT : Tab64 w) (hx : x.size ≤ 9223372036854775807) (hy : y.size ≤ 9223372036854775807) :
    Calls Tryd.prog 3 #[.agg #[.bool b, .string x, .string y]] w fun e w' => e = .returned (.bool true) ∧ Below w.heap.size w w' := by
  obtain ⟨r, hr⟩ : ∃ r, r = validR b x y := ⟨_, rfl⟩
  have C0 : Hid (∀ W, _) := Lib.hid fun W => szRat_any b x y 1048576 W (by omega) (by omega) hx hy
  have C1 : Hid (∀ W, _) := Lib.hid fun W => toRat_any b x y W
  have C2 : Hid (∀ W, _) := Lib.hid fun W => specValid_any b x y W hx hy
  have C3 : Hid (∀ W, Below w.heap.size w W → _) := Lib.hid fun W hW => implValid_any b x y W hx hy (hU.below hW) (hT.below hW)
  rw [← hr] at C2 C3
  clear hr hU hT hx hy
  have hcc : (!r == r) = false := by cases r <;> rfl
  have hbox := Box.new w 23 #[.bool b, .string x, .string y]
  have hB := (Below.refl w.heap.size w).alloc (Nat.le_refl _) (.cells #[.bool b, .string x, .string y] 23)
  obtain ⟨r0, r1, r2, _, _, _⟩ := hbox.three
  go_enter Tryd.func3, Tryd.ntmps3
  go_wp2_with (first
    | (go_at_call 14; refine (C0.out _).mono ?_; rintro e w1 ⟨⟨m, rfl, hm1, hm2, hm3⟩, hb⟩; clear hm3; replace hB := hB.trans (hb.mono hB.size); replace hbox := hbox.below hb hbox.lt; clear hb r0 r1 r2; obtain ⟨r0, r1, r2, _, _, _⟩ := hbox.three)
    | (go_at_call 16; refine (C1.out _).mono ?_; rintro e w2 ⟨rfl, hb⟩; replace hB := hB.trans (hb.mono hB.size); replace hbox := hbox.below hb hbox.lt; clear hb r0 r1 r2; obtain ⟨r0, r1, r2, _, _, _⟩ := hbox.three)
    | (go_at_call 15; refine (C2.out _).mono ?_; rintro e w3 ⟨rfl, hb⟩; replace hB := hB.trans (hb.mono hB.size); replace hbox := hbox.below hb hbox.lt; clear hb r0 r1 r2; obtain ⟨r0, r1, r2, _, _, _⟩ := hbox.three)
    | (go_at_call 17; refine (C3.out _ hB).mono ?_; rintro e w4 ⟨rfl, hb⟩; replace hB := hB.trans (hb.mono hB.size); replace hbox := hbox.below hb hbox.lt; clear hb r0 r1 r2; obtain ⟨r0, r1, r2, _, _, _⟩ := hbox.three))
  all_goals go_ret
  all_goals exact ⟨rfl, hB⟩

end Go.Proofs.YtdjldhkmcmbiiaaDoor
