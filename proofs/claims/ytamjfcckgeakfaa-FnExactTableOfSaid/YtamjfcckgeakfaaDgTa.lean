/-
  TableOf: the program.
-/
import Derived.Test.YtamjfcckgeakfaaDgTi
import Derived.Test.YtamjfcckgeakfaaDgTs
import Derived.Test.YtamjfcckgeakfaaDgAs
namespace Go.Proofs.Ytamjfcckgeakfaa
open Go.RowKit Num

/-- The value in a cell. -/
def cellV (W : World) (p : Addr) : Value := (W.cell? p).getD undef

/-- What a round of the table's loop keeps. -/
structure KpU (L : Int) (A0 : Option Addr) (n c : Nat) (ro : Int) (T : Nat → Bool) (M Bd G k : Nat) (w W : World) : Prop where
  box : Box W Bd 28 #[.int .i64 L, .slice A0 n c, .int .i64 ro]
  tab : ∃ cs : Array Value, Box W G 5 cs ∧ cs.size = M ∧ ∀ j, j < k → cs[j]? = some (.int .u8 (if T j then 49 else 48))
  bel : Below w.heap.size w W

section
variable {L : Int} {A0 : Option Addr} {n c : Nat} {ro : Int} {T : Nat → Bool} {M Bd G k : Nat} {w W W' : World}

theorem KpU.by (hb : Below W.heap.size W W') (h : KpU L A0 n c ro T M Bd G k w W) : KpU L A0 n c ro T M Bd G k w W' :=
  ⟨h.box.below hb h.box.lt, (let ⟨cs, a, b⟩ := h.tab; ⟨cs, a.below hb a.lt, b⟩), h.bel.trans (hb.mono h.bel.size)⟩
theorem KpU.drew (h : KpU L A0 n c ro T M Bd G k w W) : KpU L A0 n c ro T M Bd G k w W.drew := ⟨h.box, h.tab, h.bel.drew⟩
theorem KpU.put (h : KpU L A0 n c ro T M Bd G k w W) (hG : Bd < G) (hw : w.heap.size ≤ G) (v : Value) : KpU L A0 n c ro T M Bd G k w (W.setCell ⟨G, k, none⟩ v) :=
  ⟨h.box.far3 (show G ≠ Bd by omega) k v, (let ⟨cs, a, b, d⟩ := h.tab; ⟨cs.setIfInBounds k v, a.set k v, by simp [b], fun j hj => by
    rw [Array.getElem?_setIfInBounds, if_neg (by omega)]; exact d j hj⟩), h.bel.setCell (p := ⟨G, k, none⟩) hw v⟩
theorem KpU.next (h : KpU L A0 n c ro T M Bd G k w W) (hG : Bd < G) (hw : w.heap.size ≤ G) (hk : k < M) (v : Value) (hv : v = .int .u8 (if T k then 49 else 48)) : KpU L A0 n c ro T M Bd G (k + 1) w (W.setCell ⟨G, k, none⟩ v) :=
  ⟨(h.put hG hw v).box, (let ⟨cs, a, b, d⟩ := h.tab; ⟨cs.setIfInBounds k v, a.set k v, by simp [b], fun j hj => by
    rw [Array.getElem?_setIfInBounds]
    by_cases e : j = k
    · subst e; rw [if_pos rfl, if_pos (by omega), hv]
    · rw [if_neg (by omega)]; exact d j (by omega)⟩), (h.put hG hw v).bel⟩
theorem KpU.all (h : KpU L A0 n c ro T M Bd G k w W) (hk : k < M) :
    W.cell? ⟨Bd, 0, none⟩ = some (.int .i64 L) ∧ W.cell? ⟨Bd, 1, none⟩ = some (.slice A0 n c) ∧ W.cell? ⟨Bd, 2, none⟩ = some (.int .i64 ro) ∧ W.cell? ⟨G, k, none⟩ = some (cellV W ⟨G, k, none⟩) ∧ W.frozen? ⟨G, k, none⟩ = false ∧ KpU L A0 n c ro T M Bd G k w W := by
  obtain ⟨q0, q1, q2⟩ := h.box.trio
  obtain ⟨cs, a, b, d⟩ := h.tab
  refine ⟨q0, q1, q2, ?_, a.free k, h⟩
  unfold cellV
  rw [a.cell, Array.getElem?_eq_getElem (show k < cs.size by omega)]
  rfl
end

theorem held5t {p0 p1 p2 p3 p4 K : Prop} (h : p0 ∧ p1 ∧ p2 ∧ p3 ∧ p4 ∧ K) : K := h.2.2.2.2.2

set_option maxRecDepth 100000 in
set_option maxHeartbeats 3200000 in
theorem to1_any (lo Ln rn n c k Bd : Nat) (A0 : Option Addr) (f : Nat → Int) (w : World) (hs : ShpI (Ln : Int) n f) (hL : Ln ≤ 10) (hn : n ≤ 1048576) (hr : rn < n + 2) (hd : Box w Bd 28 #[.int .i64 (Ln : Nat), .slice A0 n c, .int .i64 (rn : Nat)]) (h0 : IntsAt lo w A0 (n * 3) f) :
    Calls Try.prog 54 #[.string ⟨(bin Ln k).toArray⟩, .pointer (some ⟨Bd, 0, none⟩)] w fun e w' => e = .returned (.bool (Dg.ev (ndl n f) Ln Ln rn k)) ∧ Below w.heap.size w w' := by
  obtain ⟨q0, q1, q2⟩ := hd.trio
  have CT : Hid _ := Lib.hid (isTrueAt_any lo (Ln : Int) rn n c k A0 f w hs (by omega) (by omega) hn hr h0)
  rw [Int.toNat_natCast] at CT
  clear h0 hs
  go_enter Try.func54, Try.ntmps54
  go_wp2_with (go_at_call 55; refine CT.out.mono ?_; rintro e w1 ⟨rfl, hb⟩)
  go_ret
  exact ⟨rfl, hb⟩

set_option maxRecDepth 100000 in
set_option maxHeartbeats 6400000 in
theorem tw_any (lo Ln rn n c Bd : Nat) (A0 : Option Addr) (f : Nat → Int) (w : World) (hs : ShpI (Ln : Int) n f) (hL : Ln ≤ 10) (hn : n ≤ 1048576) (hr : rn < n + 2) (hd : Box w Bd 28 #[.int .i64 (Ln : Nat), .slice A0 n c, .int .i64 (rn : Nat)]) (h0 : IntsAt lo w A0 (n * 3) f) :
    Calls Try.prog 53 #[.int .i64 (Ln : Nat), .func (.func 54) #[] #[.pointer (some ⟨Bd, 0, none⟩)]] w fun e w' => e = .returned (.string (tbS (Dg.ev (ndl n f) Ln Ln rn) (2 ^ Ln))) ∧ Below w.heap.size w w' := by
  have hpw : 2 ^ Ln ≤ 1024 := Nat.le_trans (Nat.pow_le_pow_right (by omega) hL) (by decide)
  have CT : Hid (∀ (k : Nat) W, Below w.heap.size w W → Box W Bd 28 #[.int .i64 (Ln : Nat), .slice A0 n c, .int .i64 (rn : Nat)] → _) := Lib.hid fun k W hW x => to1_any lo Ln rn n c k Bd A0 f W hs hL hn hr x (h0.below hW (Nat.le_refl _))
  have CA : Hid (∀ (k : Nat) W, k ≤ 1048576 → _) := Lib.hid fun k W hk => asg_any k Ln W hk (by omega)
  have C1 : Hid (∀ b W, _) := Lib.hid fun b W => truth_any b W
  have ec : IntKind.u64.wrap (Ln : Int) = (Ln : Int) := IntWalk.u64_in _ (by omega)
  have e2p : (2 : Int) ^ Ln = ((2 ^ Ln : Nat) : Int) := by simp
  have ew : wrap64 ((2 : Int) ^ Ln) = ((2 ^ Ln : Nat) : Int) := by rw [e2p]; exact wrap64_small (Int.natCast_nonneg _) (Int.ofNat_le.2 (Nat.le_trans hpw (by decide)))
  have hmk := mk_bytes (2 ^ Ln) (by omega)
  generalize Dg.ev (ndl n f) Ln Ln rn = T at CT ⊢
  generalize hM : 2 ^ Ln = M at hpw hmk ew ⊢
  have hgt := hd.lt
  have hG := Box.new w 5 (madeCells #[.int .u8 0] M)
  have hP := hd.alloc (.cells (madeCells #[.int .u8 0] M) 5)
  have hB := (Below.refl w.heap.size w).alloc (Nat.le_refl _) (.cells (madeCells #[.int .u8 0] M) 5)
  clear hM e2p hs h0 hr hd
  go_enter Try.func53, Try.ntmps53
  go_wp2_with fail
  clear hmk ew ec
  generalize hW : World.alloc _ _ = W0 at hP hB hG ⊢
  clear hW
  have hK : KpU (Ln : Int) A0 n c (rn : Int) T M Bd w.heap.size 0 w W0 := ⟨hP, ⟨_, hG, size_madeCells _ _, fun j h => by omega⟩, hB⟩
  clear hP hB hG
  go_loopg [12] M (fun q iv wr => ∃ k : Nat, k + q = M ∧ iv = .int .i64 (k : Nat) ∧ KpU (Ln : Int) A0 n c (rn : Int) T M Bd w.heap.size k w wr)
  case atStart => exact ⟨0, by omega, rfl, hK⟩
  case round =>
    clear hK
    obtain ⟨k, hk, rfl, hK⟩ := hrel
    by_cases hk0 : k < M
    · have HK := Lib.hid hK
      obtain ⟨q0, q1, q2, g0, gf, _⟩ := hK.all hk0
      clear hK
      cases hTk : T k
      all_goals
        have CB := Lib.hid fun W hW x => CT.out k W hW x
        rw [hTk] at CB
        have HT := Lib.hid hTk
        clear hTk
        go_wp2_with (first
          | (go_at_call 83; with_reducible refine (CA.out k _ (by omega)).mono ?_; rintro e w3 ⟨rfl, hb3⟩)
          | (go_at_call 54; with_reducible refine (CB.out _ (KpU.by hb3 HK.out).bel (KpU.by hb3 HK.out).box).mono ?_; rintro e w4 ⟨rfl, hb4⟩; have hk4 := KpU.by hb4 (KpU.by hb3 HK.out); obtain ⟨_, _, _, g0, gf, _⟩ := hk4.all hk0)
          | (go_at_call 64; with_reducible refine (C1.out _ _).mono ?_; rintro e w5 ⟨rfl, rfl⟩))
        go_wp2_with fail
        go_roundg (gk - 1)
        case rel => exact ⟨k + 1, by omega, by go_num, KpU.next (KpU.by hb4 (KpU.by hb3 HK.out)) hgt (Nat.le_refl _) hk0 _ (by rw [HT.out]; rfl)⟩
        case measure => omega
    · obtain rfl : k = M := by omega
      obtain ⟨cs, hG, hcs, hf⟩ := hK.tab
      have hcv := run_convert_bytes_back (P := Try.prog) wr 43 9 5 ⟨w.heap.size, 0, none⟩ k (tbB T k) Try.underlying43 Try.underlying5 Try.underlying9 (fun j hj => by
        rw [tbB_len] at hj
        have h1 : wr.cell? ⟨w.heap.size, j, none⟩ = some (.int .u8 ((tbB T k)[j].toNat : Int)) := by
          rw [hG.cell, hf j hj]
          simp only [tbB, List.getElem_map, List.getElem_range]
          split <;> rfl
        rw [← h1]
        unfold Addr.add
        split
        · rename_i h0; rw [h0]
        · simp)
      rw [tbB_len] at hcv
      have hB := hK.bel
      clear hG hf hK
      go_wp2_with fail
      go_ret
      exact ⟨rfl, hB⟩

set_option maxRecDepth 100000 in
set_option maxHeartbeats 6400000 in
theorem implTa_any (lo : Nat) (L ro : Int) (n c : Nat) (A0 : Option Addr) (f : Nat → Int) (w : World) (hn : n ≤ 1048576) (h0 : IntsAt lo w A0 (n * 3) f) :
    Calls Try.prog 23 #[dgV L A0 n c ro] w fun e w' => e = .returned (.tuple #[.string (taS L ro n f), .bool (vaB L ro n f)]) ∧ Below w.heap.size w w' := by
  have hP := Box.new w 28 #[.int .i64 L, .slice A0 n c, .int .i64 ro]
  have hB := (Below.refl w.heap.size w).alloc (Nat.le_refl _) (.cells #[.int .i64 L, .slice A0 n c, .int .i64 ro] 28)
  obtain ⟨q0, q1, q2⟩ := hP.trio
  have H0 := Lib.hid h0; clear h0
  have CG : Hid (∀ W, Below w.heap.size w W → _) := Lib.hid fun W hW => implVaE_any lo L ro n c A0 f W hn (H0.out.below hW (Nat.le_refl _))
  unfold taS
  cases hv : vaB L ro n f with
  | false =>
    rw [hv] at CG
    rw [if_neg (by simp)]
    clear hv
    go_enter Try.func23, Try.ntmps23
    go_wp2_with (go_at_call 45; refine (CG.out _ hB).mono ?_; rintro e w1 ⟨rfl, hb⟩)
    go_ret2
    exact ⟨rfl, hB.trans (hb.mono hB.size)⟩
  | true =>
    rw [hv] at CG
    rw [if_pos rfl]
    have hvd := (vd_iff L ro n f).1 ((vaB_iff L ro n f).1 hv)
    obtain ⟨⟨hL, h4, hro, hs⟩, _⟩ := hvd
    obtain ⟨Ln, rfl⟩ : ∃ Ln : Nat, L = (Ln : Int) := ⟨L.toNat, by omega⟩
    obtain ⟨rn, rfl⟩ : ∃ rn : Nat, ro = (rn : Int) := ⟨ro.toNat, by omega⟩
    rw [Int.toNat_natCast, Int.toNat_natCast]
    have CW : Hid (∀ W, Below w.heap.size w W → Box W w.heap.size 28 #[.int .i64 (Ln : Nat), .slice A0 n c, .int .i64 (rn : Nat)] → _) := Lib.hid fun W hW x => tw_any lo Ln rn n c w.heap.size A0 f W hs (by omega) hn (by omega) x (H0.out.below hW (Nat.le_refl _))
    generalize tbS (Dg.ev (ndl n f) Ln Ln rn) (2 ^ Ln) = ST at CW ⊢
    clear hs hv h4 hro
    go_enter Try.func23, Try.ntmps23
    go_wp2_with (first
      | (go_at_call 45; refine (CG.out _ hB).mono ?_; rintro e w1 ⟨rfl, hb⟩; clear q0 q1 q2; replace hP := hP.below hb hP.lt; replace hB := hB.trans (hb.mono hB.size); clear hb; obtain ⟨q0, q1, q2⟩ := hP.trio)
      | (go_at_call 53; refine (CW.out _ hB hP).mono ?_; rintro e w2 ⟨rfl, hb⟩; replace hB := hB.trans (hb.mono hB.size); clear hb))
    go_ret2
    exact ⟨rfl, hB⟩

end Go.Proofs.Ytamjfcckgeakfaa
