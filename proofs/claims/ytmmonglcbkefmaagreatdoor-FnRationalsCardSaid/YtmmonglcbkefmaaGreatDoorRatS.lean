/-
  Lists of Rats: the law's copies, comparisons and sizes of them.
-/
import Derived.Test.YtmmonglcbkefmaaGreatDoorFracLaw
import Derived.Test.YtmmonglcbkefmaaGreatDoorEqRat
import Derived.Laws.MakeOwn
import Derived.Deep.LoopGhost
import Derived.Deep.DeepCutAuto
import Derived.Deep.RegionHeld3
namespace Go.Proofs.YtmmonglcbkefmaaGreatDoor
open Go.RowKit Num

/-- The three cells of a Rat. -/
def ratC (r : Bool × ByteArray × ByteArray) : Nat → Value
  | 0 => .bool r.1
  | 1 => .string r.2.1
  | _ => .string r.2.2

/-- n Rats stand in a row from the address on. -/
def RatAt (w : World) (A : Option Addr) (n : Nat) (F : Nat → Bool × ByteArray × ByteArray) : Prop :=
  0 < n → ∃ b off, A = some ⟨b, off, none⟩ ∧ b < w.heap.size ∧ ∀ j, j < n → ∀ c, c < 3 → w.cell? ⟨b, off + (j * 3 + c), none⟩ = some (ratC (F j) c)

theorem RatAt.below {B : Nat} {w w' : World} {A : Option Addr} {n : Nat} {F : Nat → Bool × ByteArray × ByteArray} (h : RatAt w A n F) (hb : Below B w w') (hB : w.heap.size ≤ B) : RatAt w' A n F := fun h0 => by
  obtain ⟨b, off, rfl, h1, h2⟩ := h h0
  exact ⟨b, off, rfl, Nat.lt_of_lt_of_le h1 hb.size, fun j hj c hc => (hb.cell (p := ⟨b, off + (j * 3 + c), none⟩) (Nat.lt_of_lt_of_le h1 hB)).trans (h2 j hj c hc)⟩

theorem RatAt.at_ {w : World} {A : Option Addr} {n : Nat} {F : Nat → Bool × ByteArray × ByteArray} (h : RatAt w A n F) {j : Nat} (hj : j < n) :
    ∃ b off, A = some ⟨b, off, none⟩ ∧ b < w.heap.size ∧ w.cell? ⟨b, off + j * 3, none⟩ = some (.bool (F j).1) ∧ w.cell? ⟨b, off + j * 3 + 1, none⟩ = some (.string (F j).2.1) ∧ w.cell? ⟨b, off + j * 3 + 2, none⟩ = some (.string (F j).2.2) := by
  obtain ⟨b, off, rfl, h1, h2⟩ := h (by omega)
  exact ⟨b, off, rfl, h1, h2 j hj 0 (by omega), h2 j hj 1 (by omega), h2 j hj 2 (by omega)⟩

theorem RatAt.cells {w : World} {b off n : Nat} {F : Nat → Bool × ByteArray × ByteArray} (h : RatAt w (some ⟨b, off, none⟩) n F) {j : Nat} (hj : j < n) :
    w.cell? ⟨b, off + j * 3, none⟩ = some (.bool (F j).1) ∧ w.cell? ⟨b, off + j * 3 + 1, none⟩ = some (.string (F j).2.1) ∧ w.cell? ⟨b, off + j * 3 + 2, none⟩ = some (.string (F j).2.2) := by
  obtain ⟨b', off', he, _, h0, h1, h2⟩ := h.at_ hj
  injection he with he
  injection he with e1 e2 _
  subst e1 e2
  exact ⟨h0, h1, h2⟩

theorem Tryz.infoRat : (Tryz.prog.info? 24).map (fun i => (i.zero, i.size, i.bytes)) = some (some (.agg #[.bool false, .string ⟨#[]⟩, .string ⟨#[]⟩]), 3, 40) := by kernel_rfl

theorem mk_rat (n : Nat) (hn : n ≤ 1048576) (w : World) :
    (Instr.makeSlice 42 (.int .i64 (n : Int)) (.int .i64 (n : Int))).run Tryz.prog w = .ok (.slice (some ⟨w.heap.size, 0, none⟩) n n) (w.alloc (.cells (madeCells #[.bool false, .string ⟨#[]⟩, .string ⟨#[]⟩] (n * 3)) 24)) := by
  obtain ⟨i, hi, hzz⟩ := Option.map_eq_some_iff.1 Tryz.infoRat
  simp only [Prod.mk.injEq] at hzz
  obtain ⟨hz, hs, hb⟩ := hzz
  have hr := run_make (P := Tryz.prog) w 42 24 i _ Tryz.underlying42 hi hz .i64 .i64 n n (by omega) (Int.le_refl _) (by rw [hb]; omega) (by omega)
  simp only [Int.toNat_natCast, hs, Value.cells] at hr
  exact hr

theorem three_at {w : World} {g : Nat} {t : TypeId} {cs : Array Value} (h : Box w g t cs) (i : Nat) (hi : i + 3 ≤ cs.size) :
    w.cell? ⟨g, i, none⟩ = some (cs.getD i undef) ∧ w.cell? ⟨g, i + 1, none⟩ = some (cs.getD (i + 1) undef) ∧ w.cell? ⟨g, i + 2, none⟩ = some (cs.getD (i + 2) undef) ∧
    w.frozen? ⟨g, i, none⟩ = false ∧ w.frozen? ⟨g, i + 1, none⟩ = false ∧ w.frozen? ⟨g, i + 2, none⟩ = false := by
  refine ⟨?_, ?_, ?_, h.free _, h.free _, h.free _⟩
  all_goals rw [h.cell, Array.getD, dif_pos (by omega), Array.getElem?_eq_getElem (by omega)]; rfl

theorem fill3 (k n : Nat) (cs : Array Value) (F : Nat → Nat → Value) (hcs : cs.size = n * 3) (hk : k < n) (h : ∀ j, j < k → ∀ c, c < 3 → cs[j * 3 + c]? = some (F j c)) :
    ∀ j, j < k + 1 → ∀ c, c < 3 → (((cs.setIfInBounds (k * 3) (F k 0)).setIfInBounds (k * 3 + 1) (F k 1)).setIfInBounds (k * 3 + 2) (F k 2))[j * 3 + c]? = some (F j c) := by
  intro j hj c hc
  simp only [Array.getElem?_setIfInBounds, Array.size_setIfInBounds]
  by_cases hjk : j < k
  · rw [if_neg (by omega), if_neg (by omega), if_neg (by omega)]
    exact h j hjk c hc
  · obtain rfl : j = k := by omega
    match c, hc with
    | 0, _ => rw [if_neg (by omega), if_neg (by omega), if_pos (by omega), if_pos (by omega)]
    | 1, _ => rw [if_neg (by omega), if_pos (by omega), if_pos (by omega)]
    | 2, _ => rw [if_pos (by omega), if_pos (by omega)]

set_option maxRecDepth 100000 in
set_option maxHeartbeats 1600000 in
theorem toRatS_any (A0 : Option Addr) (n cap : Nat) (F : Nat → Bool × ByteArray × ByteArray) (w : World) (hn : n ≤ 1048576) (hA : RatAt w A0 n F) :
    Calls Tryz.prog 37 #[.slice A0 n cap] w fun e w' => (∃ g, e = .returned (.slice (some ⟨g, 0, none⟩) n n) ∧ RatAt w' (some ⟨g, 0, none⟩) n F) ∧ Below w.heap.size w w' := by
  have hmk := mk_rat n hn
  have HA := Lib.hid hA; clear hA
  go_enter Tryz.func37, Tryz.ntmps37
  go_wp2_with fail
  clear hmk
  obtain ⟨G, hG⟩ : ∃ G, G = w.heap.size := ⟨_, rfl⟩
  rw [← hG]
  have HG := Lib.hid hG; clear hG
  go_loopw [4] (fun i wr => ∃ (k : Nat) (cs : Array Value), (k ≤ n ∧ cs.size = n * 3 ∧ ∀ j, j < k → ∀ c, c < 3 → cs[j * 3 + c]? = some (ratC (F j) c)) ∧ Box wr G 24 cs ∧ Below w.heap.size w wr ∧ i = .int .i64 (k : Int)) (fun i _ => ((n : Int) - intOf i).toNat)
  case atStart =>
    refine ⟨0, madeCells #[.bool false, .string ⟨#[]⟩, .string ⟨#[]⟩] (n * 3), ⟨by omega, size_madeCells _ _, fun j h => by omega⟩, ?_, ?_, rfl⟩
    · rw [HG.out]; exact Box.new w _ _
    · exact (Below.refl _ w).alloc (Nat.le_refl _) _
  case round =>
    obtain ⟨k, cs, hk', hbx, hB, rfl⟩ := hrel
    obtain ⟨hk, hcs, hfill⟩ := hk'
    have Hfill := Lib.hid hfill; clear hfill
    have HB := Lib.hid hB; clear hB
    by_cases hk0 : k < n
    · have hAw : RatAt wr A0 n F := HA.out.below HB.out (Nat.le_refl _)
      obtain ⟨b, off, rfl, hb, r0, r1, r2⟩ := hAw.at_ hk0
      have Hb := Lib.hid hb; clear hb hAw
      go_wp2_with (go_at_call 86; refine (toRat_any _ _ _ _).mono ?_; rintro e w1 ⟨rfl, hb1⟩; replace hbx := hbx.below hb1 hbx.lt; replace HB := Lib.hid (HB.out.trans (hb1.mono HB.out.size)); obtain ⟨k0, k1, k2, f0, f1, f2⟩ := three_at hbx (k * 3) (by omega))
      refine ⟨⟨k + 1, _, ⟨by omega, ?_, ?_⟩, ((hbx.set _ _).set _ _).set _ _, ?_, by simp⟩, by simp [intOf]; omega⟩
      · simp [hcs]
      · exact fill3 k n cs (fun j => ratC (F j)) hcs hk0 Hfill.out
      · have hG2 : w.heap.size ≤ G := by rw [HG.out]; exact Nat.le_refl _
        exact ((HB.out.setCell (p := ⟨G, k * 3, none⟩) hG2 _).setCell (p := ⟨G, k * 3 + 1, none⟩) hG2 _).setCell (p := ⟨G, k * 3 + 2, none⟩) hG2 _
    · obtain rfl : k = n := by omega
      go_wp2_with fail
      go_ret
      refine ⟨⟨G, rfl, fun _ => ⟨G, 0, rfl, hbx.lt, fun j hj c hc => ?_⟩⟩, ?_⟩
      · rw [hbx.cell]; rw [Nat.zero_add]; exact Hfill.out j hj c hc
      · exact HB.out

theorem hold6R {W w' : World} {b off b' off' n j : Nat} {F : Nat → Bool × ByteArray × ByteArray} (h : RatAt W (some ⟨b, off, none⟩) n F) (k : RatAt W (some ⟨b', off', none⟩) n F) (hj : j < n) (hb : Below W.heap.size W w') :
    w'.cell? ⟨b, off + j * 3, none⟩ = some (.bool (F j).1) ∧ w'.cell? ⟨b, off + j * 3 + 1, none⟩ = some (.string (F j).2.1) ∧ w'.cell? ⟨b, off + j * 3 + 2, none⟩ = some (.string (F j).2.2) ∧
    w'.cell? ⟨b', off' + j * 3, none⟩ = some (.bool (F j).1) ∧ w'.cell? ⟨b', off' + j * 3 + 1, none⟩ = some (.string (F j).2.1) ∧ w'.cell? ⟨b', off' + j * 3 + 2, none⟩ = some (.string (F j).2.2) ∧ Below W.heap.size W w' := by
  obtain ⟨h0, h1, h2⟩ := (h.below hb (Nat.le_refl _)).cells hj
  obtain ⟨k0, k1, k2⟩ := (k.below hb (Nat.le_refl _)).cells hj
  exact ⟨h0, h1, h2, k0, k1, k2, hb⟩
theorem hold6R_below {W w' : World} {p1 p2 p3 p4 p5 p6 : Prop} (h : p1 ∧ p2 ∧ p3 ∧ p4 ∧ p5 ∧ p6 ∧ Below W.heap.size W w') : Below W.heap.size W w' := h.2.2.2.2.2.2
theorem step6R {W w1 w2 : World} (h : Below W.heap.size W w1) (k : Below w1.heap.size w1 w2) : Below W.heap.size W w2 := h.trans (k.mono h.size)

set_option maxRecDepth 100000 in
set_option maxHeartbeats 1600000 in
theorem eqRatS_any (A0 A1 : Option Addr) (n c0 c1 : Nat) (F : Nat → Bool × ByteArray × ByteArray) (w : World) (hn : n ≤ 1048576) (h0 : RatAt w A0 n F) (h1 : RatAt w A1 n F) :
    Calls Tryz.prog 39 #[.slice A0 n c0, .slice A1 n c1] w fun e w' => e = .returned (.bool true) ∧ Below w.heap.size w w' := by
  have H0 := Lib.hid h0; clear h0
  have H1 := Lib.hid h1; clear h1
  go_enter Tryz.func39, Tryz.ntmps39
  go_wp2_with fail
  go_loopg [5] n (fun q iv wr => ∃ k : Nat, k + q = n ∧ iv = .int .i64 (k : Nat) ∧ Below w.heap.size w wr)
  case atStart => exact ⟨0, by omega, rfl, Below.refl _ _⟩
  case round =>
    obtain ⟨k, hk, rfl, hbel⟩ := hrel
    by_cases hk0 : k < n
    · have ha0 := H0.out.below hbel (Nat.le_refl _)
      have ha1 := H1.out.below hbel (Nat.le_refl _)
      obtain ⟨b, off, rfl, _, _⟩ := ha0 (by omega)
      obtain ⟨b', off', rfl, _, _⟩ := ha1 (by omega)
      have C : Hid (∀ W, _) := Lib.hid fun W => eqRat_same (F k).1 (F k).2.1 (F k).2.2 W
      have HA0 := Lib.hid ha0
      have HA1 := Lib.hid ha1
      clear ha0 ha1
      go_upto_region 6 with fail
      go_region_held3 (fun w' => w'.cell? ⟨b, off + k * 3, none⟩ = some (.bool (F k).1) ∧ w'.cell? ⟨b, off + k * 3 + 1, none⟩ = some (.string (F k).2.1) ∧ w'.cell? ⟨b, off + k * 3 + 2, none⟩ = some (.string (F k).2.2) ∧ w'.cell? ⟨b', off' + k * 3, none⟩ = some (.bool (F k).1) ∧ w'.cell? ⟨b', off' + k * 3 + 1, none⟩ = some (.string (F k).2.1) ∧ w'.cell? ⟨b', off' + k * 3 + 2, none⟩ = some (.string (F k).2.2) ∧ Below wr.heap.size wr w')
        ((refine hold6R HA0.out HA1.out hk0 ?_; first | exact (Below.refl _ wr).drew | exact hold6R_below (by assumption) | (refine step6R (hold6R_below (by assumption)) ?_; assumption)))
        ((go_at_call 38; refine (C.out _).mono ?_; rintro e w1 ⟨rfl, hb1⟩))
      all_goals go_wp2_with fail
      go_roundg (gk - 1)
      case rel => exact ⟨k + 1, by omega, by go_num, hbel.trans ((hold6R_below (by assumption)).mono hbel.size)⟩
      case measure => omega
    · obtain rfl : k = n := by omega
      go_wp2_with fail
      go_ret
      exact ⟨rfl, hbel⟩

set_option maxRecDepth 100000 in
set_option maxHeartbeats 1600000 in
theorem szRatS_any (A0 : Option Addr) (n cap : Nat) (F : Nat → Bool × ByteArray × ByteArray) (w : World) (hn : n ≤ 9223372036854775807) (hA : RatAt w A0 n F) (hs : ∀ j, j < n → (F j).2.1.size ≤ 9223372036854775807 ∧ (F j).2.2.size ≤ 9223372036854775807) :
    Calls Tryz.prog 36 #[.slice A0 n cap, .int .i64 1048576] w fun e w' => (∃ m : Int, e = .returned (.int .i64 m) ∧ (0 ≤ m → n ≤ 1048576)) ∧ Below w.heap.size w w' := by
  have hw : IntKind.i64.wrap (1048576 - (n : Int)) = 1048576 - (n : Int) := IntWalk.i64_in _ (by omega)
  have HA := Lib.hid hA; clear hA
  have HS := Lib.hid hs; clear hs
  by_cases h : n ≤ 1048576
  · have h1 : decide (1048576 - (n : Int) < 0) = false := decide_eq_false (by omega)
    go_enter Tryz.func36, Tryz.ntmps36
    go_wp2_with fail
    go_loopg [1, 5] n (fun q lv iv wr => ∃ (k : Nat) (m : Int), k + q = n ∧ iv = .int .i64 (k : Nat) ∧ lv = .int .i64 m ∧ 0 ≤ m ∧ m ≤ 1048576 ∧ Below w.heap.size w wr)
    case atStart => exact ⟨0, _, by omega, rfl, rfl, by omega, by omega, Below.refl _ _⟩
    case round =>
      obtain ⟨k, m, hk, rfl, rfl, hm0, hm1, hbel⟩ := hrel
      by_cases hk0 : k < n
      · have hAw : RatAt wr A0 n F := HA.out.below hbel (Nat.le_refl _)
        obtain ⟨b, off, rfl, hb, r0, r1, r2⟩ := hAw.at_ hk0
        obtain ⟨s1, s2⟩ := HS.out k hk0
        have C : Hid (∀ W, _) := Lib.hid fun W => szRat_any (F k).1 (F k).2.1 (F k).2.2 m W hm1 (by omega) s1 s2
        clear hb hAw s1 s2
        go_upto_region 8 with (go_at_call 85; refine (C.out _).mono ?_; rintro e w1 ⟨⟨m', rfl, hm0', hm1', hm2'⟩, hb1⟩; clear hm2')
        by_cases hneg : m' < 0
        · have hn1 : decide (m' < 0) = true := decide_eq_true hneg
          go_wp2_with fail
          go_ret
          exact ⟨⟨_, rfl, fun _ => h⟩, hbel.trans (hb1.mono hbel.size)⟩
        · have hn1 : decide (m' < 0) = false := decide_eq_false hneg
          go_wp2_with fail
          go_roundg (gk - 1)
          case rel => exact ⟨k + 1, m', by omega, by go_num, rfl, by omega, by omega, hbel.trans (hb1.mono hbel.size)⟩
          case measure => omega
      · obtain rfl : k = n := by omega
        go_wp2_with fail
        go_ret
        exact ⟨⟨_, rfl, fun _ => h⟩, hbel⟩
  · have h1 : decide (1048576 - (n : Int) < 0) = true := decide_eq_true (by omega)
    go_enter Tryz.func36, Tryz.ntmps36
    go_wp2_with fail
    go_ret
    exact ⟨⟨_, rfl, fun h' => absurd h' (by omega)⟩, Below.refl _ _⟩

end Go.Proofs.YtmmonglcbkefmaaGreatDoor
