/-
  The law's parts: texts of marks, lists of texts compared, marked and held.
-/
import Derived.Test.YtcjaknojeaoffaaDoorTkE
namespace Go.Proofs.YtcjaknojeaoffaaDoor
open Go.RowKit Num

/-- Decimal digits in front of a text. -/
def decM : Nat → Nat → List UInt8 → List UInt8
  | 0, _, acc => acc
  | f + 1, n, acc => if n = 0 then acc else decM f (n / 10) (UInt8.ofNat (48 + n % 10) :: acc)
theorem decM_zero : ∀ (f : Nat) (acc : List UInt8), decM f 0 acc = acc
  | 0, _ => rfl
  | _ + 1, _ => by rw [decM, if_pos rfl]
/-- The mark of a number. -/
def mkT (n : Nat) : ByteArray := (⟨#[109]⟩ : ByteArray) ++ ⟨(decM n n []).toArray⟩

theorem conv_mkT (w : World) (c : Int) : (convert 42 9 (.slice (some ⟨w.heap.size, 0, none⟩) 1 1)).run Tryd.prog (w.alloc (.cells #[.int .u8 c] 5)) = .ok (.string ⟨#[UInt8.ofNat c.toNat]⟩) (w.alloc (.cells #[.int .u8 c] 5)) :=
  run_convert_bytes_arg (P := Tryd.prog) (w.alloc (.cells #[.int .u8 c] 5)) 42 5 Tryd.underlying42 Tryd.underlying5 w.heap.size 0 1 1 [c] rfl (fun i hi => by
    obtain rfl : i = 0 := by omega
    exact (Box.new w 5 #[.int .u8 c]).cell 0) 9 Tryd.underlying9

set_option maxRecDepth 100000 in
set_option maxHeartbeats 3200000 in
theorem markTextT_any (n : Nat) (w : World) (h1 : 1 ≤ n) (hn : n ≤ 1048576) :
    Calls Tryd.prog 21 #[.int .i64 (n : Nat)] w fun e w' => e = .returned (.string (mkT n)) ∧ Below w.heap.size w w' := by
  have hcv := conv_mkT
  have h0 : ¬ ((n : Int) ≤ 0) := by omega
  go_enter Tryd.func21, Tryd.ntmps21
  go_wp2_with fail
  go_loopg [0, 3] n (fun q a b wr => ∃ (d : Nat) (acc : List UInt8), a = .int .i64 (d : Nat) ∧ b = .string ⟨acc.toArray⟩ ∧ d ≤ q ∧ d ≤ n ∧ acc.length + q ≤ n ∧ Hid (decM n n [] = decM q d acc) ∧ Below w.heap.size w wr)
  case atStart => exact ⟨n, [], rfl, rfl, by omega, by omega, by simp, Lib.hid rfl, Below.refl _ _⟩
  case round =>
    obtain ⟨d, acc, rfl, rfl, hdq, hdn, hal, hdec, hbel⟩ := hrel
    by_cases hd0 : 0 < d
    · obtain ⟨r, hr⟩ : ∃ r, r = d % 10 := ⟨_, rfl⟩
      have hr2 : r < 10 := by omega
      have et : ((d : Int)).tmod 10 = (r : Int) := by rw [Int.tmod_eq_emod_of_nonneg (by omega)]; omega
      have eq : IntKind.i64.wrap ((d : Int) / 10) = (d : Int) / 10 := IntWalk.i64_in _ (by omega)
      have ew : IntKind.i64.wrap (48 + (r : Int)) = 48 + (r : Int) := IntWalk.i64_in _ (by omega)
      have eu : IntKind.u8.wrap (48 + (r : Int)) = 48 + (r : Int) := IntWalk.u8_in _ (by omega)
      have HS : Hid (decM n n [] = decM (gk - 1) (d / 10) (UInt8.ofNat (48 + r) :: acc)) := Lib.hid (by
        rw [hdec.out]
        obtain ⟨g, rfl⟩ : ∃ g, gk = g + 1 := ⟨gk - 1, by omega⟩
        rw [decM, if_neg (by omega), hr]
        rfl)
      clear hr
      go_wp2_with fail
      go_roundg (gk - 1)
      case rel => exact ⟨d / 10, UInt8.ofNat (48 + r) :: acc, by simp, by simp; apply ByteArray.ext; simp, by omega, by omega, by simp; omega, HS, hbel.alloc hbel.size _⟩
      case measure => omega
    · obtain rfl : d = 0 := by omega
      have HE : Hid (mkT n = (⟨#[109]⟩ : ByteArray) ++ ⟨acc.toArray⟩) := Lib.hid (by rw [mkT, hdec.out, decM_zero])
      go_wp2_with fail
      go_ret
      exact ⟨by rw [HE.out]; rfl, hbel⟩

/-- A list of texts in a block of its own, not older than base. -/
def StrsAt (base : Nat) (w : World) (v : Value) (n : Nat) (f : Nat → ByteArray) : Prop :=
  (v = .slice none 0 0 ∧ n = 0) ∨ ∃ g cap cur, v = .slice (some ⟨g, 0, none⟩) n cap ∧ base ≤ g ∧ Box w g 9 cur ∧ n ≤ cur.size ∧ ∀ j, j < n → cur[j]? = some (.string (f j))

theorem StrsAt.of_own {base : Nat} {w : World} {v : Value} {ts : List ByteArray} (h : w.ownsRow base 9 1 v ts.length (strV ts)) : StrsAt base w v ts.length (fun j => ts.getD j ⟨#[]⟩) := by
  rcases h.2 with h2 | ⟨g, cap, cur, rfl, h3, h4, h5, h6, h7, h8⟩
  · exact .inl h2
  · refine .inr ⟨g, cap, cur, rfl, h3, h4, by omega, fun j hj => ?_⟩
    have h9 : (cur.toList.take (ts.length * 1))[j]? = some (.string (ts.getD j ⟨#[]⟩)) := by
      rw [h8, strV, List.getElem?_map, List.getD, List.getElem?_eq_getElem hj]
      rfl
    rw [List.getElem?_take] at h9
    split at h9
    · rw [← Array.getElem?_toList]; exact h9
    · cases h9
theorem StrsAt.below {base B : Nat} {w w' : World} {v : Value} {n : Nat} {f : Nat → ByteArray} (h : StrsAt base w v n f) (hb : Below B w w') (hB : w.heap.size ≤ B) : StrsAt base w' v n f := by
  rcases h with h | ⟨g, cap, cur, rfl, h3, h4, h5⟩
  · exact .inl h
  · exact .inr ⟨g, cap, cur, rfl, h3, (hb.block g (Nat.lt_of_lt_of_le h4.lt hB)).trans h4, h5⟩
/-- What is older stays when only younger blocks turn. -/
theorem StrsAt.old {base B : Nat} {w w0 w' : World} {v : Value} {n : Nat} {f : Nat → ByteArray} (h : StrsAt base w v n f) (h0 : w.heap.size ≤ B) (h1 : Below w.heap.size w w0) (hb : Below B w0 w') : StrsAt base w' v n f := by
  rcases h with h | ⟨g, cap, cur, rfl, h3, h4, h5⟩
  · exact .inl h
  · exact .inr ⟨g, cap, cur, rfl, h3, (hb.block g (Nat.lt_of_lt_of_le h4.lt h0)).trans ((h1.block g h4.lt).trans h4), h5⟩

set_option maxRecDepth 100000 in
set_option maxHeartbeats 3200000 in
theorem eqStrS_any (b1 b2 : Nat) (v1 v2 : Value) (n : Nat) (f : Nat → ByteArray) (w : World) (hn : n ≤ 1048576) (h1 : StrsAt b1 w v1 n f) (h2 : StrsAt b2 w v2 n f) :
    Calls Tryd.prog 9 #[v1, v2] w fun e w' => e = .returned (.bool true) ∧ Below w.heap.size w w' := by
  have hv1 : ∃ A c, v1 = .slice A n c ∧ ∀ j, j < n → ∃ g, A = some ⟨g, 0, none⟩ ∧ w.cell? ⟨g, j, none⟩ = some (.string (f j)) := by
    rcases h1 with ⟨rfl, rfl⟩ | ⟨g, cap, cur, rfl, h3, h4, h5, h6⟩
    · exact ⟨none, 0, rfl, fun j hj => by omega⟩
    · exact ⟨_, _, rfl, fun j hj => ⟨g, rfl, by rw [h4.cell]; exact h6 j hj⟩⟩
  have hv2 : ∃ A c, v2 = .slice A n c ∧ ∀ j, j < n → ∃ g, A = some ⟨g, 0, none⟩ ∧ w.cell? ⟨g, j, none⟩ = some (.string (f j)) := by
    rcases h2 with ⟨rfl, rfl⟩ | ⟨g, cap, cur, rfl, h3, h4, h5, h6⟩
    · exact ⟨none, 0, rfl, fun j hj => by omega⟩
    · exact ⟨_, _, rfl, fun j hj => ⟨g, rfl, by rw [h4.cell]; exact h6 j hj⟩⟩
  obtain ⟨A1, c1, rfl, r1⟩ := hv1
  obtain ⟨A2, c2, rfl, r2⟩ := hv2
  have R1 := Lib.hid r1
  have R2 := Lib.hid r2
  clear r1 r2 h1 h2
  go_enter Tryd.func9, Tryd.ntmps9
  go_wp2_with fail
  go_loopg [5] n (fun q iv wr => ∃ k d : Nat, k + q = n ∧ iv = .int .i64 (k : Nat) ∧ wr = w.drewN d)
  case atStart => exact ⟨0, 0, by omega, rfl, rfl⟩
  case round =>
    obtain ⟨k, d, hk, rfl, rfl⟩ := hrel
    by_cases hk0 : k < n
    · obtain ⟨g1, rfl, q1⟩ := R1.out k hk0
      obtain ⟨g2, rfl, q2⟩ := R2.out k hk0
      have q1' : (w.drewN d).cell? ⟨g1, k, none⟩ = some (.string (f k)) := by rw [World.cell?_drewN]; exact q1
      have q2' : (w.drewN d).cell? ⟨g2, k, none⟩ = some (.string (f k)) := by rw [World.cell?_drewN]; exact q2
      go_upto_region 6 with fail
      go_quiet (fail)
      go_wp2_with fail
      go_roundg (gk - 1)
      case rel => exact ⟨k + 1, d + nq, by omega, by go_num, by first | rfl | (rw [World.drewN_add])⟩
      case measure => omega
    · obtain rfl : k = n := by omega
      go_wp2_with fail
      go_ret
      exact ⟨rfl, below_drewN _ (Below.refl _ _)⟩

theorem cell_some {w : World} {g j : Nat} {t : TypeId} {cs : Array Value} (h : Box w g t cs) (hj : j < cs.size) : w.cell? ⟨g, j, none⟩ = some (cs.getD j undef) := by
  rw [h.cell, Array.getD, dif_pos hj, Array.getElem?_eq_getElem hj]; rfl

/-- The marks of a list of texts. -/
def mkF (j : Nat) : ByteArray := mkT (j + 1)

set_option maxRecDepth 100000 in
set_option maxHeartbeats 3200000 in
theorem markStrS_any (base : Nat) (v : Value) (n : Nat) (f : Nat → ByteArray) (w : World) (hn : n ≤ 1000000) (hbase : base ≤ w.heap.size) (h : StrsAt base w v n f) :
    Calls Tryd.prog 10 #[v, .int .i64 1] w fun e w' => e = .returned (.int .i64 ((n + 1 : Nat) : Int)) ∧ StrsAt base w' v n mkF ∧ Below base w w' := by
  have CM : Hid (∀ (k : Nat) W, 1 ≤ k → k ≤ 1048576 → _) := Lib.hid fun k W a b => markTextT_any k W a b
  rcases h with ⟨rfl, rfl⟩ | ⟨g, cap, cur, rfl, hg, hbx, hcur, hf⟩
  · go_enter Tryd.func10, Tryd.ntmps10
    go_wp2_with fail
    go_loopg [1, 5] 0 (fun q kv iv wr => kv = .int .i64 1 ∧ iv = .int .i64 0 ∧ wr = w)
    case atStart => exact ⟨rfl, rfl, rfl⟩
    case round =>
      obtain ⟨rfl, rfl, rfl⟩ := hrel
      go_wp2_with fail
      go_ret
      exact ⟨rfl, .inl ⟨rfl, rfl⟩, Below.refl _ _⟩
  · clear hf
    go_enter Tryd.func10, Tryd.ntmps10
    go_wp2_with fail
    go_loopg [1, 5] n (fun q kv iv wr => ∃ (j m : Nat) (cs : Array Value), j + q = n ∧ iv = .int .i64 (j : Nat) ∧ kv = .int .i64 (m : Nat) ∧ Hid (m = j + 1) ∧ Box wr g 9 cs ∧ cs.size = cur.size ∧ Hid (∀ i, i < j → cs[i]? = some (.string (mkF i))) ∧ Below base w wr)
    case atStart => exact ⟨0, 1, cur, by omega, rfl, rfl, Lib.hid rfl, hbx, rfl, Lib.hid fun i h => by omega, Below.refl _ _⟩
    case round =>
      rename World => w2
      obtain ⟨j, m, cs, hj, rfl, rfl, hm, hb2, hcs, hq, hbel⟩ := hrel
      by_cases hj0 : j < n
      · have h1m : 1 ≤ m := by have := hm.out; omega
        have hmb : m ≤ 1000001 := by have := hm.out; omega
        have wm : IntKind.i64.wrap ((m : Int) + 1) = (m : Int) + 1 := IntWalk.i64_in _ (by omega)
        have hsz := hbel.size
        have hjc : j < cs.size := by omega
        go_wp2_with (go_at_call 21; refine (CM.out m _ h1m (by omega)).mono ?_; rintro e w3 ⟨rfl, hb3⟩; replace hb2 := hb2.below hb3 hb2.lt; replace hbel := hbel.trans (hb3.mono (Nat.le_trans hbase hsz)); have k0 := cell_some hb2 hjc; have f0 := hb2.free j; clear hb3)
        go_roundg (gk - 1)
        case rel => exact ⟨j + 1, m + 1, _, by omega, by go_num, by go_num, Lib.hid (by have := hm.out; omega), hb2.set j _, by simp [hcs], Lib.hid fun i hi => by
          rw [Array.getElem?_setIfInBounds]
          by_cases hij : j = i
          · subst hij
            rw [if_pos rfl, if_pos (by omega), mkF, ← hm.out]
          · rw [if_neg hij]
            exact hq.out i (by omega), hbel.setCell (p := ⟨g, j, none⟩) hg _⟩
        case measure => omega
      · obtain rfl : j = n := by omega
        have HM := hm
        go_wp2_with fail
        go_ret
        exact ⟨by rw [← HM.out]; rfl, .inr ⟨g, cap, cs, rfl, hg, hb2, by omega, hq.out⟩, hbel⟩

theorem held1 {W W' : World} {p0 : Prop} (h : p0 ∧ Below W.heap.size W W') : Below W.heap.size W W' := h.2
theorem stepT {W w1 w2 : World} (h : Below W.heap.size W w1) (k : Below w1.heap.size w1 w2) : Below W.heap.size W w2 := h.trans (k.mono h.size)

set_option maxRecDepth 100000 in
set_option maxHeartbeats 3200000 in
theorem heldStrS_any (base : Nat) (v : Value) (n : Nat) (w : World) (hn : n ≤ 1000000) (h : StrsAt base w v n mkF) :
    Calls Tryd.prog 11 #[v, .int .i64 1] w fun e w' => e = .returned (.int .i64 ((n + 1 : Nat) : Int)) ∧ Below w.heap.size w w' := by
  have CM : Hid (∀ (k : Nat) W, 1 ≤ k → k ≤ 1048576 → _) := Lib.hid fun k W a b => markTextT_any k W a b
  rcases h with ⟨rfl, rfl⟩ | ⟨g, cap, cur, rfl, hg, hbx, hcur, hf⟩
  · go_enter Tryd.func11, Tryd.ntmps11
    go_wp2_with fail
    go_loopg [1, 5] 0 (fun q kv iv wr => kv = .int .i64 1 ∧ iv = .int .i64 0 ∧ wr = w)
    case atStart => exact ⟨rfl, rfl, rfl⟩
    case round =>
      obtain ⟨rfl, rfl, rfl⟩ := hrel
      go_wp2_with fail
      go_ret
      exact ⟨rfl, Below.refl _ _⟩
  · have HF := Lib.hid hf
    clear hf
    go_enter Tryd.func11, Tryd.ntmps11
    go_wp2_with fail
    go_loopg [1, 5] n (fun q kv iv wr => ∃ (j m : Nat), j + q = n ∧ iv = .int .i64 (j : Nat) ∧ kv = .int .i64 (m : Nat) ∧ Hid (m = j + 1) ∧ Below w.heap.size w wr)
    case atStart => exact ⟨0, 1, by omega, rfl, rfl, Lib.hid rfl, Below.refl _ _⟩
    case round =>
      rename World => w2
      obtain ⟨j, m, hj, rfl, rfl, hm, hbel⟩ := hrel
      by_cases hj0 : j < n
      · have h1m : 1 ≤ m := by have := hm.out; omega
        have hmb : m ≤ 1000001 := by have := hm.out; omega
        have wm : IntKind.i64.wrap ((m : Int) + 1) = (m : Int) + 1 := IntWalk.i64_in _ (by omega)
        have hb2 := hbx.below hbel hbx.lt
        have hg2 := hb2.lt
        have k0 : w2.cell? ⟨g, j, none⟩ = some (.string (mkT m)) := by rw [hb2.cell, HF.out j hj0, mkF, ← hm.out]
        have C : Hid (∀ W, _) := Lib.hid fun W => CM.out m W (by omega) (by omega)
        have fe : ((mkT m).toList != (mkT m).toList) = false := by simp
        clear hb2
        go_upto_region 4 with fail
        go_region_held3 (fun w' => w'.cell? ⟨g, j, none⟩ = some (.string (mkT m)) ∧ Below w2.heap.size w2 w')
          ((suffices hB : Below w2.heap.size w2 _ from ⟨(hB.cell hg2).trans k0, hB⟩; first | exact (Below.refl _ w2).drew | exact held1 (by assumption) | (refine stepT (held1 (by assumption)) ?_; assumption)))
          ((go_at_call 21; refine (C.out _).mono ?_; rintro e w3 ⟨rfl, hb3⟩))
        all_goals go_wp2_with fail
        go_roundg (gk - 1)
        case rel => exact ⟨j + 1, m + 1, by omega, by go_num, by go_num, Lib.hid (by have := hm.out; omega), hbel.trans ((held1 (by assumption)).mono hbel.size)⟩
        case measure => omega
      · obtain rfl : j = n := by omega
        have HM := hm
        go_wp2_with fail
        go_ret
        exact ⟨by rw [← HM.out]; rfl, hbel⟩

end Go.Proofs.YtcjaknojeaoffaaDoor
