/-
  TableOf: the program.
-/
import Derived.Test.YtmobcahfalaaeaaDgTi
import Derived.Test.YtmobcahfalaaeaaDgTs
import Derived.Test.YtmobcahfalaaeaaDgAs
namespace Go.Proofs.Ytmobcahfalaaeaa
open Go.RowKit Num

/-- The value in a cell. -/
def cellV (W : World) (p : Addr) : Value := (W.cell? p).getD undef

/-- What a round of the table's loop keeps. -/
structure KpT (L : Int) (A0 : Option Addr) (n c : Nat) (ro : Int) (T : Nat → Bool) (M G k : Nat) (w W : World) : Prop where
  box : Box W w.heap.size 24 #[.int .i64 L, .slice A0 n c, .int .i64 ro]
  tab : ∃ cs : Array Value, Box W G 5 cs ∧ cs.size = M ∧ ∀ j, j < k → cs[j]? = some (.int .u8 (if T j then 49 else 48))
  bel : Below w.heap.size w W

section
variable {L : Int} {A0 : Option Addr} {n c : Nat} {ro : Int} {T : Nat → Bool} {M G k : Nat} {w W W' : World}

theorem KpT.by (hb : Below W.heap.size W W') (h : KpT L A0 n c ro T M G k w W) : KpT L A0 n c ro T M G k w W' :=
  ⟨h.box.below hb h.box.lt, (let ⟨cs, a, b⟩ := h.tab; ⟨cs, a.below hb a.lt, b⟩), h.bel.trans (hb.mono h.bel.size)⟩
theorem KpT.drew (h : KpT L A0 n c ro T M G k w W) : KpT L A0 n c ro T M G k w W.drew := ⟨h.box, h.tab, h.bel.drew⟩
theorem KpT.put (h : KpT L A0 n c ro T M G k w W) (hG : w.heap.size < G) (v : Value) : KpT L A0 n c ro T M G k w (W.setCell ⟨G, k, none⟩ v) :=
  ⟨h.box.far3 (show G ≠ w.heap.size by omega) k v, (let ⟨cs, a, b, d⟩ := h.tab; ⟨cs.setIfInBounds k v, a.set k v, by simp [b], fun j hj => by
    rw [Array.getElem?_setIfInBounds, if_neg (by omega)]; exact d j hj⟩), h.bel.setCell (p := ⟨G, k, none⟩) (by show w.heap.size ≤ G; omega) v⟩
theorem KpT.next (h : KpT L A0 n c ro T M G k w W) (hG : w.heap.size < G) (hk : k < M) (v : Value) (hv : v = .int .u8 (if T k then 49 else 48)) : KpT L A0 n c ro T M G (k + 1) w (W.setCell ⟨G, k, none⟩ v) :=
  ⟨(h.put hG v).box, (let ⟨cs, a, b, d⟩ := h.tab; ⟨cs.setIfInBounds k v, a.set k v, by simp [b], fun j hj => by
    rw [Array.getElem?_setIfInBounds]
    by_cases e : j = k
    · subst e; rw [if_pos rfl, if_pos (by omega), hv]
    · rw [if_neg (by omega)]; exact d j (by omega)⟩), (h.put hG v).bel⟩
theorem KpT.all (h : KpT L A0 n c ro T M G k w W) (hk : k < M) :
    W.cell? ⟨w.heap.size, 0, none⟩ = some (.int .i64 L) ∧ W.cell? ⟨w.heap.size, 1, none⟩ = some (.slice A0 n c) ∧ W.cell? ⟨w.heap.size, 2, none⟩ = some (.int .i64 ro) ∧ W.cell? ⟨G, k, none⟩ = some (cellV W ⟨G, k, none⟩) ∧ W.frozen? ⟨G, k, none⟩ = false ∧ KpT L A0 n c ro T M G k w W := by
  obtain ⟨q0, q1, q2⟩ := h.box.trio
  obtain ⟨cs, a, b, d⟩ := h.tab
  refine ⟨q0, q1, q2, ?_, a.free k, h⟩
  unfold cellV
  rw [a.cell, Array.getElem?_eq_getElem (show k < cs.size by omega)]
  rfl
end

theorem held5t {p0 p1 p2 p3 p4 K : Prop} (h : p0 ∧ p1 ∧ p2 ∧ p3 ∧ p4 ∧ K) : K := h.2.2.2.2.2

set_option maxRecDepth 100000 in
set_option maxHeartbeats 6400000 in
theorem implTa_any (lo : Nat) (L ro : Int) (n c : Nat) (A0 : Option Addr) (f : Nat → Int) (w : World) (hn : n ≤ 1048576) (h0 : IntsAt lo w A0 (n * 3) f) :
    Calls Try.prog 26 #[dgV L A0 n c ro] w fun e w' => e = .returned (.tuple #[.string (taS L ro n f), .bool (vaB L ro n f)]) ∧ Below w.heap.size w w' := by
  have hP := Box.new w 24 #[.int .i64 L, .slice A0 n c, .int .i64 ro]
  have hB := (Below.refl w.heap.size w).alloc (Nat.le_refl _) (.cells #[.int .i64 L, .slice A0 n c, .int .i64 ro] 24)
  obtain ⟨q0, q1, q2⟩ := hP.trio
  have H0 := Lib.hid h0; clear h0
  have CG : Hid (∀ W, Below w.heap.size w W → _) := Lib.hid fun W hW => implVaE_any lo L ro n c A0 f W hn (H0.out.below hW (Nat.le_refl _))
  unfold taS
  cases hv : vaB L ro n f with
  | false =>
    rw [hv] at CG
    rw [if_neg (by simp)]
    clear hv
    go_enter Try.func26, Try.ntmps26
    go_wp2_with (go_at_call 28; refine (CG.out _ hB).mono ?_; rintro e w1 ⟨rfl, hb⟩)
    go_ret2
    exact ⟨rfl, hB.trans (hb.mono hB.size)⟩
  | true =>
    rw [hv] at CG
    rw [if_pos rfl]
    have hvd := (vd_iff L ro n f).1 ((vaB_iff L ro n f).1 hv)
    obtain ⟨⟨hL, h4, hro, hs⟩, _⟩ := hvd
    obtain ⟨Ln, rfl⟩ : ∃ Ln : Nat, L = (Ln : Int) := ⟨L.toNat, by omega⟩
    obtain ⟨rn, rfl⟩ : ∃ rn : Nat, ro = (rn : Int) := ⟨ro.toNat, by omega⟩
    rw [Int.toNat_natCast, Int.toNat_natCast]
    have hpw : 2 ^ Ln ≤ 1024 := Nat.le_trans (Nat.pow_le_pow_right (by omega) (show Ln ≤ 10 by omega)) (by decide)
    have CT : Hid (∀ (k : Nat) W, Below w.heap.size w W → _) := Lib.hid fun k W hW => isTrueAt_any lo (Ln : Int) rn n c k A0 f W hs hL.1 hL.2 hn (by omega) (H0.out.below hW (Nat.le_refl _))
    rw [Int.toNat_natCast] at CT
    have CA : Hid (∀ (k : Nat) W, k ≤ 1048576 → _) := Lib.hid fun k W hk => asg_any k Ln W hk (by omega)
    have C1 : Hid (∀ b W, _) := Lib.hid fun b W => truth_any b W
    have ec : IntKind.u64.wrap (Ln : Int) = (Ln : Int) := IntWalk.u64_in _ (by omega)
    have e2p : (2 : Int) ^ Ln = ((2 ^ Ln : Nat) : Int) := by simp
    have ew : wrap64 ((2 : Int) ^ Ln) = ((2 ^ Ln : Nat) : Int) := by rw [e2p]; exact wrap64_small (Int.natCast_nonneg _) (Int.ofNat_le.2 (Nat.le_trans hpw (by decide)))
    have hmk := mk_bytes (2 ^ Ln) (by omega)
    generalize Dg.ev (ndl n f) Ln Ln rn = T at CT ⊢
    generalize hM : 2 ^ Ln = M at hpw hmk ew ⊢
    clear hM e2p hs hv
    go_enter Try.func26, Try.ntmps26
    go_upto_region 3 with (go_at_call 28; refine (CG.out _ hB).mono ?_; rintro e w1 ⟨rfl, hb⟩; clear q0 q1 q2; replace hP := hP.below hb hP.lt; replace hB := hB.trans (hb.mono hB.size); clear hb; obtain ⟨q0, q1, q2⟩ := hP.trio)
    have hG := Box.new w1 5 (madeCells #[.int .u8 0] M)
    have hgt : w.heap.size < w1.heap.size := World.block_lt_of_cell? w1 ⟨w.heap.size, 0, none⟩ q0
    replace hP := hP.alloc (.cells (madeCells #[.int .u8 0] M) 5)
    replace hB := hB.alloc hB.size (.cells (madeCells #[.int .u8 0] M) 5)
    go_wp2_with fail
    clear hmk ew ec q0 q1 q2 CG
    generalize hW : World.alloc _ _ = W0 at hP hB hG ⊢
    clear hW
    generalize w1.heap.size = G at hG hgt ⊢
    have hK : KpT (Ln : Int) A0 n c (rn : Int) T M G 0 w W0 := ⟨hP, ⟨_, hG, size_madeCells _ _, fun j h => by omega⟩, hB⟩
    clear hP hB hG
    go_loopg [15] M (fun q iv wr => ∃ k : Nat, k + q = M ∧ iv = .int .i64 (k : Nat) ∧ KpT (Ln : Int) A0 n c (rn : Int) T M G k w wr)
    case atStart => exact ⟨0, by omega, rfl, hK⟩
    case round =>
      clear hK
      obtain ⟨k, hk, rfl, hK⟩ := hrel
      by_cases hk0 : k < M
      · have HK := Lib.hid hK
        obtain ⟨q0, q1, q2, g0, gf, _⟩ := hK.all hk0
        clear hK
        cases hTk : T k
        all_goals
          have CB := Lib.hid fun W hW => CT.out k W hW
          have CF := C1
          rw [hTk] at CB
          have HT := Lib.hid hTk
          clear hTk
          go_upto_region 7 with fail
          go_region_held3 (fun w' => w'.cell? ⟨w.heap.size, 0, none⟩ = some (.int .i64 (Ln : Nat)) ∧ w'.cell? ⟨w.heap.size, 1, none⟩ = some (.slice A0 n c) ∧ w'.cell? ⟨w.heap.size, 2, none⟩ = some (.int .i64 (rn : Nat)) ∧ w'.cell? ⟨G, k, none⟩ = some (cellV w' ⟨G, k, none⟩) ∧ w'.frozen? ⟨G, k, none⟩ = false ∧ KpT (Ln : Int) A0 n c (rn : Int) T M G k w w')
            ((refine KpT.all ?_ hk0; first | exact HK.out.drew | exact held5t (by assumption) | exact KpT.by (by assumption) (held5t (by assumption)) | exact KpT.put (held5t (by assumption)) hgt _))
            (first
              | (go_at_call 57; with_reducible refine (CA.out k _ (by omega)).mono ?_; rintro e w3 ⟨rfl, hb3⟩)
              | (go_at_call 56; with_reducible refine (CB.out _ (KpT.bel (held5t (by assumption)))).mono ?_; rintro e w4 ⟨rfl, hb4⟩)
              | (go_at_call 46; with_reducible refine (C1.out _ _).mono ?_; rintro e w5 ⟨rfl, rfl⟩))
          go_wp2_with fail
          go_roundg (gk - 1)
          case rel => exact ⟨k + 1, by omega, by go_num, KpT.next (KpT.by hb4 (KpT.by hb3 HK.out.drew)) hgt hk0 _ (by rw [HT.out]; rfl)⟩
          case measure => omega
      · obtain rfl : k = M := by omega
        obtain ⟨cs, hG, hcs, hf⟩ := hK.tab
        have hcv := run_convert_bytes_back (P := Try.prog) wr 66 9 5 ⟨G, 0, none⟩ k (tbB T k) Try.underlying66 Try.underlying5 Try.underlying9 (fun j hj => by
          rw [tbB_len] at hj
          have h1 : wr.cell? ⟨G, j, none⟩ = some (.int .u8 ((tbB T k)[j].toNat : Int)) := by
            rw [hG.cell, hf j hj]
            simp only [tbB, List.getElem_map, List.getElem_range]
            split <;> rfl
          rw [← h1]
          unfold Addr.add
          split
          · rename_i h0; rw [h0]
          · simp)
        rw [tbB_len] at hcv
        have hB := hK.bel
        clear hG hf hK
        go_wp2_with fail
        go_ret2
        exact ⟨rfl, hB⟩

end Go.Proofs.Ytmobcahfalaaeaa
