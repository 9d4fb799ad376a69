/-
  The model's count of the statements in blocks.
-/
import Derived.Test.YtoaiejodbmkbjaaGreatDoorPgSs
namespace Go.Proofs.YtoaiejodbmkbjaaGreatDoor
open Go.RowKit Num

/-- The first n numbers of a block, as a list. -/
def fl (n : Nat) (f : Nat → Int) : List Int := (List.range n).map f
theorem fl_succ (n : Nat) (f : Nat → Int) : fl (n + 1) f = fl n f ++ [f n] := by simp [fl, List.range_succ]
theorem fl_len (n : Nat) (f : Nat → Int) : (fl n f).length = n := by simp [fl]
theorem mem_fl {n : Nat} {f : Nat → Int} {i : Int} : i ∈ fl n f ↔ ∃ j, j < n ∧ f j = i := by simp [fl]

/-- All numbers of a block are statements from the least on. -/
def InR (least : Int) (ns n : Nat) (f : Nat → Int) : Prop := ∀ j, j < n → least ≤ f j ∧ f j ≤ (ns : Int) - 1

/-- From w to w' only block G has changed. -/
def Only (G : Nat) (w w' : World) : Prop := w.heap.size ≤ w'.heap.size ∧ ∀ b, b ≠ G → b < w.heap.size → w'.heap[b]? = w.heap[b]?
theorem Only.refl (G : Nat) (w : World) : Only G w w := ⟨Nat.le_refl _, fun _ _ _ => rfl⟩
theorem Only.trans {G : Nat} {a b c : World} (h : Only G a b) (k : Only G b c) : Only G a c := ⟨Nat.le_trans h.1 k.1, fun x hx hlt => (k.2 x hx (Nat.lt_of_lt_of_le hlt h.1)).trans (h.2 x hx hlt)⟩
theorem Only.set (G : Nat) (w : World) (i : Nat) (v : Value) : Only G w (w.setCell ⟨G, i, none⟩ v) := ⟨by simp [World.setCell], fun b hb _ => Below.heap_setCell w ⟨G, i, none⟩ v b hb⟩
theorem Only.below {G B : Nat} {w w' : World} (hb : Below B w w') (hB : w.heap.size ≤ B) : Only G w w' := ⟨hb.size, fun b _ h => hb.block b (Nat.lt_of_lt_of_le h hB)⟩
theorem Only.drewN {G : Nat} {a w : World} (h : Only G a w) (n : Nat) : Only G a (w.drewN n) := ⟨h.1, h.2⟩
theorem Box.only {G g : Nat} {w w' : World} {t : TypeId} {cs : Array Value} (h : Box w g t cs) (ho : Only G w w') (hne : g ≠ G) : Box w' g t cs := (ho.2 g hne h.lt).trans h

/-- The block's cells are how often each statement stands in the list. -/
def Cnts (cs : Array Value) (ns : Nat) (l : List Int) : Prop := cs.size = ns ∧ ∀ m, m < ns → cs[m]? = some (.int .i64 (l.count (m : Int) : Nat))

def CntPost (w0 w : World) (G ns : Nat) (p : Prop) (l2 : List Int) (e : Ending) (w' : World) : Prop :=
  ∃ r : Bool, e = .returned (.bool r) ∧ Hid (r = true ↔ p) ∧ Below w0.heap.size w0 w' ∧ Only G w w' ∧ ∃ cs', Box w' G 3 cs' ∧ Hid (r = true → Cnts cs' ns l2)

set_option maxRecDepth 100000 in
set_option maxHeartbeats 3200000 in
theorem count_any (lo : Nat) (w0 w : World) (A0 : Option Addr) (n cap : Nat) (f : Nat → Int) (least ns G : Nat) (cs : Array Value) (l : List Int) (hn : n ≤ 1048576) (hns : ns ≤ 1048576) (hl : l.length + n ≤ 1000000000) (hle : least ≤ 2000000) (hA : IntsAt lo w0 A0 n f) (hB : Below w0.heap.size w0 w) (hG : w0.heap.size ≤ G) (hbx : Box w G 3 cs) (hcs : Cnts cs ns l) :
    Calls Tryz.prog 62 #[.slice A0 n cap, .int .i64 (least : Nat), .slice (some ⟨G, 0, none⟩) ns ns] w (CntPost w0 w G ns (InR least ns n f) (l ++ fl n f)) := by
  have HA := Lib.hid hA
  have HC := Lib.hid hcs
  have HB := Lib.hid hB
  clear hA hcs hB
  go_enter Tryz.func62, Tryz.ntmps62
  go_wp2_with fail
  go_loopg [11] n (fun q iv wr => ∃ (k : Nat) (cs : Array Value), k + q = n ∧ iv = .int .i64 (k : Nat) ∧ Hid (∀ j, j < k → (least : Int) ≤ f j ∧ f j ≤ (ns : Int) - 1) ∧ Hid (Cnts cs ns (l ++ fl k f)) ∧ Box wr G 3 cs ∧ Below w0.heap.size w0 wr ∧ Only G w wr)
  case atStart => exact ⟨0, cs, by omega, rfl, Lib.hid fun j h => by omega, Lib.hid (by rw [show fl 0 f = [] from rfl, List.append_nil]; exact HC.out), hbx, HB.out, Only.refl _ _⟩
  case round =>
    obtain ⟨k, cs, hk, rfl, hq, hc, hbx, hbel, hon⟩ := hrel
    by_cases hk0 : k < n
    · obtain ⟨b, off, rfl, hb, r0⟩ := (HA.out.below hbel (Nat.le_refl _)).at_ hk0
      have hwn : IntKind.i64.wrap ((ns : Int) - 1) = (ns : Int) - 1 := IntWalk.i64_in _ (by omega)
      cases e1 : decide ((least : Int) ≤ f k ∧ f k ≤ (ns : Int) - 1) with
      | false =>
        have C1 : Hid (∀ W, Calls Tryz.prog 15 #[.int .i64 (f k), .int .i64 (least : Nat), .int .i64 ((ns : Int) - 1)] W fun e w' => e = .returned (.bool false) ∧ W = w') := Lib.hid fun W => by rw [← e1]; exact in3_any _ _ _ W
        have E1 := Lib.hid (of_decide_eq_false e1)
        clear e1
        go_wp2_with (go_at_call 15; refine (C1.out _).mono ?_; rintro e w' ⟨rfl, rfl⟩)
        go_ret
        exact ⟨false, rfl, Lib.hid ⟨fun h => (by cases h), fun h => absurd (h k hk0) E1.out⟩, hbel, hon, cs, hbx, Lib.hid fun h => (by cases h)⟩
      | true =>
        have C1 : Hid (∀ W, Calls Tryz.prog 15 #[.int .i64 (f k), .int .i64 (least : Nat), .int .i64 ((ns : Int) - 1)] W fun e w' => e = .returned (.bool true) ∧ W = w') := Lib.hid fun W => by rw [← e1]; exact in3_any _ _ _ W
        have e1 := of_decide_eq_true e1
        obtain ⟨m, hm⟩ : ∃ m : Nat, f k = (m : Nat) := ⟨(f k).toNat, by omega⟩
        rw [hm] at C1 r0
        have hmn : m < ns := by omega
        have hmi : (m : Int) < (ns : Int) := by omega
        have hcm := hc.out.2 m hmn
        have hsz := hc.out.1
        have hcl : (l ++ fl k f).count (m : Int) ≤ l.length + k := by
          have := List.count_le_length (a := (m : Int)) (l := l ++ fl k f)
          rw [List.length_append, fl_len] at this
          exact this
        obtain ⟨c, hcd⟩ : ∃ c, c = (l ++ fl k f).count (m : Int) := ⟨_, rfl⟩
        rw [← hcd] at hcm hcl
        have k0 : wr.cell? ⟨G, m, none⟩ = some (.int .i64 (c : Nat)) := by rw [hbx.cell]; exact hcm
        have f0 : wr.frozen? ⟨G, m, none⟩ = false := hbx.free _
        have HM := Lib.hid hm
        have E1 := Lib.hid e1
        have HCD := Lib.hid hcd
        have HSZ := Lib.hid hsz
        clear hm e1 hcd hcm hsz
        go_wp2_with (go_at_call 15; refine (C1.out _).mono ?_; rintro e w' ⟨rfl, rfl⟩)
        go_roundg (gk - 1)
        case rel =>
          refine ⟨k + 1, _, by omega, by go_num, Lib.hid fun j hj => ?_, Lib.hid ⟨?_, fun m' hm' => ?_⟩, hbx.set _ _, hbel.setCell (p := ⟨G, m, none⟩) hG _, hon.trans (Only.set G _ _ _)⟩
          · by_cases hjk : j < k
            · exact hq.out j hjk
            · obtain rfl : j = k := by omega
              exact E1.out
          · rw [Array.size_setIfInBounds]; exact HSZ.out
          · rw [Array.getElem?_setIfInBounds, fl_succ, ← List.append_assoc, List.count_append, HM.out]
            by_cases hmm : m = m'
            · subst hmm
              rw [if_pos rfl, if_pos (by rw [HSZ.out]; exact hm'), List.count_singleton_self, ← HCD.out]
              congr 2
            · rw [if_neg hmm, hc.out.2 m' hm', List.count_singleton, beq_eq_false_iff_ne.2 (show ((m : Nat) : Int) ≠ (m' : Nat) by omega)]
              rfl
        case measure => omega
    · obtain rfl : k = n := by omega
      go_wp2_with fail
      go_ret
      exact ⟨true, rfl, Lib.hid ⟨fun _ => hq.out, fun _ => rfl⟩, hbel, hon, cs, hbx, Lib.hid fun _ => hc.out⟩

set_option maxRecDepth 100000 in
set_option maxHeartbeats 1600000 in
theorem allOnes_any (G ns : Nat) (cs : Array Value) (l : List Int) (w : World) (hns : ns ≤ 1048576) (hbx : Box w G 3 cs) (hc : Cnts cs ns l) :
    Calls Tryz.prog 63 #[.slice (some ⟨G, 0, none⟩) ns ns, .int .i64 1, .int .i64 1] w (Yn (∀ m, m < ns → l.count (m : Int) = 1) w) := by
  have HC := Lib.hid hc
  clear hc
  go_enter Tryz.func63, Tryz.ntmps63
  go_wp2_with fail
  go_loopg [11] ns (fun q iv wr => ∃ k : Nat, k + q = ns ∧ iv = .int .i64 (k : Nat) ∧ Hid (∀ m, m < k → l.count (m : Int) = 1) ∧ Below w.heap.size w wr)
  case atStart => exact ⟨0, by omega, rfl, Lib.hid fun j h => by omega, Below.refl _ _⟩
  case round =>
    obtain ⟨k, hk, rfl, hq, hbel⟩ := hrel
    replace hbx := hbx.below hbel hbx.lt
    by_cases hk0 : k < ns
    · obtain ⟨c, hcd⟩ : ∃ c, c = l.count (k : Int) := ⟨_, rfl⟩
      have k0 : wr.cell? ⟨G, k, none⟩ = some (.int .i64 (c : Nat)) := by rw [hbx.cell, hcd]; exact HC.out.2 k hk0
      have HCD := Lib.hid hcd
      clear hcd
      cases e1 : decide ((1 : Int) ≤ (c : Int) ∧ (c : Int) ≤ 1) with
      | false =>
        have C1 : Hid (∀ W, Calls Tryz.prog 15 #[.int .i64 (c : Nat), .int .i64 1, .int .i64 1] W fun e w' => e = .returned (.bool false) ∧ W = w') := Lib.hid fun W => by rw [← e1]; exact in3_any _ _ _ W
        have E1 := Lib.hid (of_decide_eq_false e1)
        clear e1
        go_wp2_with (go_at_call 15; refine (C1.out _).mono ?_; rintro e w' ⟨rfl, rfl⟩)
        go_ret
        exact Yn.no (fun h => E1.out (by have := h k hk0; rw [← HCD.out] at this; omega)) hbel
      | true =>
        have C1 : Hid (∀ W, Calls Tryz.prog 15 #[.int .i64 (c : Nat), .int .i64 1, .int .i64 1] W fun e w' => e = .returned (.bool true) ∧ W = w') := Lib.hid fun W => by rw [← e1]; exact in3_any _ _ _ W
        have E1 := Lib.hid (of_decide_eq_true e1)
        clear e1
        go_wp2_with (go_at_call 15; refine (C1.out _).mono ?_; rintro e w' ⟨rfl, rfl⟩)
        go_roundg (gk - 1)
        case rel => exact ⟨k + 1, by omega, by go_num, Lib.hid fun j hj => by
          by_cases hjk : j < k
          · exact hq.out j hjk
          · obtain rfl : j = k := by omega
            rw [← HCD.out]
            have := E1.out
            omega, hbel⟩
        case measure => omega
    · obtain rfl : k = ns := by omega
      go_wp2_with fail
      go_ret
      exact Yn.yes hq.out hbel

end Go.Proofs.YtoaiejodbmkbjaaGreatDoor
