/-
  The law on Tokenize.
-/
import Derived.Test.YtcjaknojeaoffaaDoorTkF
namespace Go.Proofs.YtcjaknojeaoffaaDoor
open Go.RowKit Num

set_option maxRecDepth 100000 in
set_option maxHeartbeats 3200000 in
theorem specTok_any (s : ByteArray) (w : World) (hs : s.size ≤ 1048576) :
    Calls Tryd.prog 7 #[.string s] w (TkPost s w) := by
  by_cases h1 : s.size ≤ 6000
  · have h1' : ¬ (6000 : Int) < (s.size : Int) := by omega
    have C := Lib.hid (specTokens_any s w h1)
    go_enter Tryd.func7, Tryd.ntmps7
    go_wp2_with (go_at_call 19; refine C.out.mono ?_; rintro e w1 ⟨⟨v, rfl, h⟩, hb⟩)
    go_ret2
    exact ⟨⟨v, rfl, h⟩, hb⟩
  · have h1' : (6000 : Int) < (s.size : Int) := by omega
    have HO : Hid (okT s = false) := Lib.hid (by cases h : okT s with | false => rfl | true => exact absurd ((okT_iff s).1 h).1 h1)
    have HR : Hid (resT s = []) := Lib.hid (by rw [resT, if_neg (by rw [HO.out]; simp)])
    go_enter Tryd.func7, Tryd.ntmps7
    go_wp2_with fail
    go_ret2
    exact ⟨⟨_, by rw [HO.out]; rfl, by rw [HR.out]; exact World.ownsRow_nil _ _ _ _⟩, Below.refl _ _⟩

theorem resT_len (s : ByteArray) : (resT s).length ≤ 6001 := by
  rw [resT]
  split
  · have h1 := ((okT_iff s).1 (by assumption)).1
    have := finT_len s s.size
    omega
  · simp

set_option maxRecDepth 100000 in
set_option maxHeartbeats 6400000 in
theorem lawTok_any (s : ByteArray) (w : World) (hs : s.size ≤ 9223372036854775807) :
    Calls Tryd.prog 4 #[.string s] w fun e w' => e = .returned (.bool true) ∧ Below w.heap.size w w' := by
  by_cases h1 : s.size ≤ 1048576
  · have h1' : ¬ (1048576 : Int) < (s.size : Int) := by omega
    have hrl := resT_len s
    obtain ⟨n, hn⟩ : ∃ n, n = (resT s).length := ⟨_, rfl⟩
    obtain ⟨f, hf⟩ : ∃ f : Nat → ByteArray, f = fun j => (resT s).getD j ⟨#[]⟩ := ⟨_, rfl⟩
    obtain ⟨b, hb⟩ : ∃ b, b = okT s := ⟨_, rfl⟩
    have P : ∀ {W e W'}, TkPost s W e W' → ∃ v, e = .returned (.tuple #[v, .bool b]) ∧ StrsAt W.heap.size W' v n f ∧ Below W.heap.size W W' := by
      rintro W e W' ⟨⟨v, he, ho⟩, hbl⟩
      have := StrsAt.of_own ho
      rw [← hn, ← hf] at this
      exact ⟨v, by rw [he, hb], this, hbl⟩
    have CS : Hid (∀ W, Calls Tryd.prog 7 #[.string s] W fun e W' => ∃ v, e = .returned (.tuple #[v, .bool b]) ∧ StrsAt W.heap.size W' v n f ∧ Below W.heap.size W W') := Lib.hid fun W => (specTok_any s W h1).mono fun _ _ h => P h
    have CI : Hid (∀ W, Calls Tryd.prog 8 #[.string s] W fun e W' => ∃ v, e = .returned (.tuple #[v, .bool b]) ∧ StrsAt W.heap.size W' v n f ∧ Below W.heap.size W W') := Lib.hid fun W => (implTok_any s W h1).mono fun _ _ h => P h
    rw [← hn] at hrl
    clear hn hf hb P
    have CE : Hid (∀ (b1 b2 : Nat) (v1 v2 : Value) (W : World), StrsAt b1 W v1 n f → StrsAt b2 W v2 n f → _) := Lib.hid fun b1 b2 v1 v2 W x y => eqStrS_any b1 b2 v1 v2 n f W (by omega) x y
    have CM : Hid (∀ (base : Nat) (v : Value) (W : World), base ≤ W.heap.size → StrsAt base W v n f → _) := Lib.hid fun base v W x y => markStrS_any base v n f W (by omega) x y
    have CH : Hid (∀ (base : Nat) (v : Value) (W : World), StrsAt base W v n mkF → _) := Lib.hid fun base v W x => heldStrS_any base v n W (by omega) x
    have fb : (b != b) = false := by cases b <;> rfl
    have fm : (((n + 1 : Nat) : Int) != ((n + 1 : Nat) : Int)) = false := by simp
    have fl : ¬ (((n + 1 : Nat) : Int) < 0) := by omega
    obtain ⟨m, hm⟩ : ∃ m, m = n + 1 := ⟨_, rfl⟩
    rw [← hm] at CM CH fm fl
    clear hm
    go_enter Tryd.func4, Tryd.ntmps4
    go_upto_region 4 with (go_at_call 7; refine (CS.out _).mono ?_; rintro e w1 ⟨v1, rfl, hv1, hB⟩)
    go_upto_region 5 with (go_at_call 8; refine (CI.out _).mono ?_; rintro e w2 ⟨v2, rfl, hv2, hb2⟩)
    go_upto_region 8 with (go_at_call 9; refine (CE.out _ _ _ _ _ hv2 (hv1.below hb2 (Nat.le_refl _))).mono ?_; rintro e w3 ⟨rfl, hb3⟩; replace hv2 := hv2.below hb3 (Nat.le_refl _); replace hb2 := hb2.trans (hb3.mono hb2.size))
    go_upto_region 10 with (go_at_call 10; refine (CM.out _ _ _ hb2.size hv2).mono ?_; rintro e w4 ⟨rfl, hv4, hb4⟩; replace hb2 := hb2.trans hb4; clear hv2)
    go_upto_region 15 with (go_at_call 11; refine (CH.out _ _ _ hv4).mono ?_; rintro e w5 ⟨rfl, hb5⟩; replace hv4 := hv4.below hb5 (Nat.le_refl _); replace hb2 := hb2.trans (hb5.mono hb2.size))
    go_upto_region 16 with (go_at_call 8; refine (CI.out _).mono ?_; rintro e w6 ⟨v3, rfl, hv3, hb6⟩; replace hv4 := hv4.below hb6 (Nat.le_refl _); replace hb2 := hb2.trans (hb6.mono hb2.size))
    go_upto_region 19 with (go_at_call 9; refine (CE.out _ _ _ _ _ hv3 (hv1.below hb2 (Nat.le_refl _))).mono ?_; rintro e w7 ⟨rfl, hb7⟩; replace hv4 := hv4.below hb7 (Nat.le_refl _); replace hb2 := hb2.trans (hb7.mono hb2.size))
    go_wp2_with (go_at_call 11; refine (CH.out _ _ _ hv4).mono ?_; rintro e w8 ⟨rfl, hb8⟩; replace hb2 := hb2.trans (hb8.mono hb2.size))
    go_ret
    exact ⟨rfl, hB.trans (hb2.mono hB.size)⟩
  · have h1' : (1048576 : Int) < (s.size : Int) := by omega
    go_enter Tryd.func4, Tryd.ntmps4
    go_wp2_with fail
    go_ret
    exact ⟨rfl, Below.refl _ _⟩

end Go.Proofs.YtcjaknojeaoffaaDoor
