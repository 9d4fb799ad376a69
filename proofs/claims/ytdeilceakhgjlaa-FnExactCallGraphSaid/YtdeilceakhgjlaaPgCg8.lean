/-
  Marking an answer that is a list of lists, and whether it holds its marks.
-/
import Derived.Test.YtdeilceakhgjlaaPgCg7
namespace Go.Proofs.Ytdeilceakhgjlaa
open Go.RowKit Num

/-- Where the marks of list j begin. -/
def stL (L : Nat → List Int) : Nat → Int
  | 0 => 1
  | j + 1 => stL L j + ((L j).length : Int)
theorem stL_succ (L : Nat → List Int) (j : Nat) : stL L (j + 1) = stL L j + ((L j).length : Int) := rfl
theorem stL_in {L : Nat → List Int} (hL : ∀ j, (L j).length ≤ 1000) : ∀ j, 1 ≤ stL L j ∧ stL L j ≤ 1 + 1000 * (j : Int)
  | 0 => ⟨Int.le_refl 1, show (1 : Int) ≤ 1 + 1000 * (0 : Nat) by omega⟩
  | j + 1 => by
    have h1 := stL_in hL j
    have h2 := hL j
    rw [stL_succ]
    omega

set_option maxRecDepth 100000 in
set_option maxHeartbeats 1600000 in
theorem markFrom_any (lo hi : Nat) (A0 : Option Addr) (n cap : Nat) (k0 : Int) (w : World) (hn : n ≤ 1048576) (hk0 : 0 ≤ k0 ∧ k0 ≤ 100000000) (h : ShI lo hi w A0 n) :
    Calls Try.prog 49 #[.slice A0 n cap, .int .i64 k0] w fun e w' => e = .returned (.int .i64 (k0 + (n : Int))) ∧ Hid (∀ b off, A0 = some ⟨b, off, none⟩ → ∀ j, j < n → w'.cell? ⟨b, off + j, none⟩ = some (.int .i64 (k0 + (j : Int)))) ∧ Marks lo hi w w' := by
  have H := Lib.hid h
  clear h
  go_enter Try.func49, Try.ntmps49
  go_wp2_with fail
  go_loopg [1, 5] n (fun q kv iv wr => ∃ (k : Nat) (x : Int), k + q = n ∧ iv = .int .i64 (k : Nat) ∧ kv = .int .i64 x ∧ Hid (x = k0 + (k : Int)) ∧ Hid (∀ b off, A0 = some ⟨b, off, none⟩ → ∀ j, j < k → wr.cell? ⟨b, off + j, none⟩ = some (.int .i64 (k0 + (j : Int)))) ∧ Marks lo hi w wr)
  case atStart => exact ⟨0, k0, by omega, rfl, rfl, Lib.hid (by omega), Lib.hid (fun b off _ j hj => absurd hj (Nat.not_lt_zero j)), Marks.refl _ _ _⟩
  case round =>
    obtain ⟨k, x, hkq, rfl, rfl, hx, hdone, hmk⟩ := hrel
    by_cases hkn : k < n
    · have hn0 : 0 < n := by omega
      have hsh := H.out
      obtain ⟨b0, off0, e0, hfw, hcw⟩ := hsh hn0
      obtain ⟨b, off, rfl, hf, hc⟩ := (hsh.marks hmk) hn0
      injection e0 with e0
      injection e0 with e1 e2 _
      subst e1 e2
      obtain ⟨z0, r0⟩ := hc k hkn
      obtain ⟨y0, R0⟩ := hcw k hkn
      have f0 := hf.2.2 (off + k)
      have hf0 := hfw.1
      have hx1 : 0 ≤ x ∧ x ≤ 200000000000000000 := by have := hx.out; omega
      have w0 : IntKind.i64.wrap (x + 1) = x + 1 := IntWalk.i64_in _ (by omega)
      have hR := Lib.hid (World.cell?_setCell_same wr ⟨b, off + k, none⟩ (.int .i64 x) r0)
      clear hc hcw hf hfw hsh
      go_wp2_with fail
      go_roundg (gk - 1)
      case rel =>
        refine ⟨k + 1, _, by omega, by go_num, rfl, Lib.hid (by have := hx.out; omega), Lib.hid (fun b' off' e j hj => ?_), hmk.put R0 hf0 _⟩
        injection e with e
        injection e with e1 e2 _
        subst e1 e2
        by_cases hjk : j = k
        · subst hjk
          rw [hR.out, hx.out]
        · rw [World.cell?_setCell_other _ _ _ _ (by intro e; injection e with _ e2 _; omega)]
          exact hdone.out _ _ rfl j (by omega)
      case measure => omega
    · obtain rfl : k = n := by omega
      go_wp2_with fail
      go_ret
      exact ⟨congrArg (fun z => Ending.returned (.int .i64 z)) hx.out, hdone, hmk⟩

set_option maxRecDepth 100000 in
set_option maxHeartbeats 1600000 in
theorem heldFrom_any (lo : Nat) (A0 : Option Addr) (n cap : Nat) (k0 : Int) (w : World) (hn : n ≤ 1048576) (hk0 : 0 ≤ k0 ∧ k0 ≤ 100000000) (h : IntsAt lo w A0 n (fun j => k0 + (j : Int))) :
    Calls Try.prog 50 #[.slice A0 n cap, .int .i64 k0] w fun e w' => e = .returned (.int .i64 (k0 + (n : Int))) ∧ w = w' := by
  have H := Lib.hid h
  clear h
  go_enter Try.func50, Try.ntmps50
  go_wp2_with fail
  go_loopg [1, 5] n (fun q kv iv wr => ∃ (k : Nat) (x : Int), k + q = n ∧ iv = .int .i64 (k : Nat) ∧ kv = .int .i64 x ∧ Hid (x = k0 + (k : Int)) ∧ w = wr)
  case atStart => exact ⟨0, k0, by omega, rfl, rfl, Lib.hid (by omega), rfl⟩
  case round =>
    obtain ⟨k, x, hkq, rfl, rfl, hx, rfl⟩ := hrel
    by_cases hkn : k < n
    · obtain ⟨b, off, rfl, hb, r0⟩ := H.out.at_ hkn
      rw [← hx.out] at r0
      have hx1 : 0 ≤ x ∧ x ≤ 200000000000000000 := by have := hx.out; omega
      have w0 : IntKind.i64.wrap (x + 1) = x + 1 := IntWalk.i64_in _ (by omega)
      have n0 : (x != x) = false := bne_self_eq_false _
      go_wp2_with fail
      go_roundg (gk - 1)
      case rel => exact ⟨k + 1, _, by omega, by go_num, rfl, Lib.hid (by have := hx.out; omega), rfl⟩
      case measure => omega
    · obtain rfl : k = n := by omega
      go_wp2_with fail
      go_ret
      exact ⟨congrArg (fun z => Ending.returned (.int .i64 z)) hx.out, rfl⟩

/-- The lists hold their marks. -/
def GrH (lo : Nat) (w : World) (v : Value) (n : Nat) (L : Nat → List Int) : Prop := ∃ A0 c0, v = .slice A0 n c0 ∧ ∀ j, j < n → ∃ g A c, A0 = some ⟨g, 0, none⟩ ∧ g < w.heap.size ∧ w.cell? ⟨g, j, none⟩ = some (.slice A (L j).length c) ∧ IntsAt lo w A (L j).length (fun i => stL L j + (i : Int))
theorem GrH.below {lo B : Nat} {w w' : World} {v : Value} {n : Nat} {L : Nat → List Int} (h : GrH lo w v n L) (hb : Below B w w') (hB : w.heap.size ≤ B) : GrH lo w' v n L := by
  obtain ⟨A0, c0, rfl, h⟩ := h
  refine ⟨A0, c0, rfl, fun j hj => ?_⟩
  obtain ⟨g, A, c, rfl, h1, h2, h3⟩ := h j hj
  exact ⟨g, A, c, rfl, Nat.lt_of_lt_of_le h1 hb.size, (hb.cell (p := ⟨g, j, none⟩) (Nat.lt_of_lt_of_le h1 hB)).trans h2, h3.below hb hB⟩

theorem Marks.wide {lo lo' hi : Nat} {w w' : World} (h : Marks lo hi w w') (hl : lo' ≤ lo) : Marks lo' hi w w' :=
  ⟨h.os, h.tape, h.output, h.size, h.fro, h.kin, fun b hb ho => h.out b hb (by omega)⟩

/-- Of two lists of the answer the later lies in the later block. -/
theorem GrN.later {lo : Nat} {w : World} {g n c0 : Nat} {L : Nat → List Int} (h : GrN lo w (.slice (some ⟨g, 0, none⟩) n c0) n L) {j k : Nat} (hjk : j < k) (hk : k < n) {b off b' off' c c' : Nat}
    (s : w.cell? ⟨g, j, none⟩ = some (.slice (some ⟨b, off, none⟩) (L j).length c)) (s' : w.cell? ⟨g, k, none⟩ = some (.slice (some ⟨b', off', none⟩) (L k).length c')) (h0 : 0 < (L j).length) (h0' : 0 < (L k).length) : b < b' := by
  rcases h with ⟨_, e⟩ | ⟨g', cap, xs, e, h1, h2, hi⟩
  · cases e
  · injection e with e0 _ e1
    injection e0 with e0
    injection e0 with e0 _ _
    subst e0 e1
    obtain ⟨x, h3, h4⟩ := h2 j (by omega)
    obtain ⟨y, h5, h6⟩ := h2 k hk
    have h7 := grow_at h1 h3
    have h8 := grow_at h1 h5
    rw [s] at h7
    rw [s'] at h8
    injection h7 with h7
    injection h8 with h8
    subst h7 h8
    have ob : ∀ {lo : Nat} {w : World} {b off n c : Nat} {xs : List Int}, OutT lo w (.slice (some ⟨b, off, none⟩) n c) xs → 0 < xs.length → (Value.slice (some ⟨b, off, none⟩) n c).ownBlock = some b := by
      intro lo w b off n c xs h h0
      rcases h with ⟨e, _⟩ | ⟨_, h⟩
      · rw [e] at h0; exact absurd h0 (Nat.lt_irrefl 0)
      · rcases h.2 with ⟨e, _⟩ | ⟨b2, cap2, cur2, e, _⟩
        · cases e
        · injection e with e _ _
          injection e with e
          rw [e]; simp [Value.ownBlock]
          injection e with e _ _
          exact e.symm
    exact hi j k _ _ b b' hjk h3 h5 (ob h4 h0) (ob h6 h0')

set_option maxRecDepth 100000 in
set_option maxHeartbeats 3200000 in
theorem markIntSS_any (lo : Nat) (v : Value) (n : Nat) (L : Nat → List Int) (w : World) (hn : n ≤ 1000) (hL : ∀ j, (L j).length ≤ 1000) (hz : 0 < lo) (h : GrN lo w v n L) :
    Calls Try.prog 16 #[v, .int .i64 1] w fun e w' => e = .returned (.int .i64 (stL L n)) ∧ GrH lo w' v n L ∧ Marks lo w.heap.size w w' := by
  obtain ⟨A0, c0, rfl⟩ := h.sl
  have H := Lib.hid h
  have HL := Lib.hid hL
  clear h hL
  go_enter Try.func16, Try.ntmps16
  go_wp2_with fail
  go_loopg [1, 5] n (fun q kv iv wr => ∃ (k : Nat) (x : Int), k + q = n ∧ iv = .int .i64 (k : Nat) ∧ kv = .int .i64 x ∧ Hid (x = stL L k) ∧ Hid (∀ j, j < k → ∀ g A c, A0 = some ⟨g, 0, none⟩ → w.cell? ⟨g, j, none⟩ = some (.slice A (L j).length c) → IntsAt lo wr A (L j).length (fun i => stL L j + (i : Int))) ∧ Marks lo w.heap.size w wr)
  case atStart => exact ⟨0, 1, by omega, rfl, rfl, Lib.hid rfl, Lib.hid (fun j hj => absurd hj (Nat.not_lt_zero j)), Marks.refl _ _ _⟩
  case round =>
    obtain ⟨k, x, hkq, rfl, rfl, hx, hdone, hmk⟩ := hrel
    by_cases hk0 : k < n
    · obtain ⟨g, A, c, rfl, hg, s0, hr⟩ := H.out.row hk0
      obtain ⟨_, _, e1, _, hls⟩ := hr.open
      injection e1 with e1 _ e3
      subst e1 e3
      have s1 := sl_marks s0 hmk
      have hlk := HL.out k
      have hst := stL_in HL.out k
      have hki : (k : Int) < (n : Int) := by omega
      obtain ⟨bl, hbl1, hbl2, hsh, hord⟩ : ∃ bl, lo ≤ bl ∧ bl ≤ w.heap.size ∧ ShI bl w.heap.size wr A (L k).length ∧ ∀ j, j < k → ∀ b off c, w.cell? ⟨g, j, none⟩ = some (.slice (some ⟨b, off, none⟩) (L j).length c) → 0 < (L j).length → b < bl := by
        by_cases h0 : 0 < (L k).length
        · obtain ⟨b, off, rfl, hs, hc⟩ := hls h0
          exact ⟨b, hs.ge, Nat.le_of_lt hs.lt, ShI.marks (lo := b) (hi := w.heap.size) (w := w) (fun _ => ⟨b, off, rfl, ⟨⟨Nat.le_refl _, hs.lt⟩, hs.lt, hs.fre hz⟩, fun j hj => ⟨_, hc j hj⟩⟩) hmk, fun j hj b' off' c' s' h0' => H.out.later hj hk0 s' s0 h0' h0⟩
        · refine ⟨w.heap.size, Nat.le_trans hg.1 (Nat.le_of_lt hg.2), Nat.le_refl _, fun h => absurd h h0, fun j hj b' off' c' s' h0' => ?_⟩
          obtain ⟨g2, A2, c2, e2, _, s2, hr2⟩ := H.out.row (show j < n by omega)
          injection e2 with e2
          injection e2 with e2 _ _
          subst e2
          rw [s'] at s2
          injection s2 with s2
          injection s2 with e4 _ e5
          subst e4 e5
          obtain ⟨_, _, e6, _, hl6⟩ := hr2.open
          injection e6 with e6 _ _
          obtain ⟨b7, off7, e7, hs7, _⟩ := hl6 h0'
          rw [← e6] at e7
          injection e7 with e7
          injection e7 with e7 _ _
          subst e7
          exact hs7.lt
      have hxs := hx.out
      have CM := Lib.hid (markFrom_any bl w.heap.size A (L k).length c x wr (by omega) (by omega) hsh)
      have HO := Lib.hid hord
      have HLS := Lib.hid hls
      have HR := Lib.hid (show x + ((L k).length : Int) = stL L (k + 1) by rw [stL_succ, ← hxs])
      have HX := Lib.hid hxs
      have HS0 := Lib.hid s0
      generalize hm : (L k).length = m at s1 CM HR
      have HM := Lib.hid hm
      clear hsh hord hls hr hst hlk hxs s0 hm
      go_wp2_with (go_at_call 49; refine CM.out.mono ?_; rintro e w6 ⟨rfl, hd6, hm6⟩)
      go_roundg (gk - 1)
      case rel =>
        refine ⟨k + 1, _, by omega, by go_num, rfl, HR, Lib.hid fun j hj g' A' c' e s' => ?_, hmk.trans (hm6.wide hbl1)⟩
        injection e with e
        injection e with e _ _
        subst e
        by_cases hjk : j = k
        · subst hjk
          rw [HS0.out] at s'
          injection s' with s'
          injection s' with e4 _ e5
          subst e4 e5
          intro h0
          obtain ⟨b, off, rfl, hs, _⟩ := HLS.out h0
          refine ⟨b, off, rfl, ⟨hs.ge, Nat.lt_of_lt_of_le hs.lt (Nat.le_trans hmk.size hm6.size), fun _ i => (hm6.fro b i (Nat.lt_of_lt_of_le hs.lt hmk.size)).trans ((hmk.fro b i hs.lt).trans (hs.fre hz i))⟩, fun i hi => ?_⟩
          rw [hd6.out b off rfl i (by rw [← HM.out]; exact hi), HX.out]
        · have hI := hdone.out j (by omega) g A' c' rfl s'
          intro h0
          obtain ⟨b, off, rfl, hs, hc⟩ := hI h0
          have hlt := HO.out j (by omega) b off c' s' h0
          have hsame := hm6.out b hs.lt (.inl hlt)
          exact ⟨b, off, rfl, ⟨hs.ge, Nat.lt_of_lt_of_le hs.lt hm6.size, fun z i => (hm6.fro b i hs.lt).trans (hs.fre z i)⟩, fun i hi => (World.cell?_of_block (a := ⟨b, off + i, none⟩) hsame).trans (hc i hi)⟩
      case measure => omega
    · obtain rfl : k = n := by omega
      go_wp2_with fail
      go_ret
      refine ⟨congrArg (fun z => Ending.returned (.int .i64 z)) hx.out, ⟨A0, c0, rfl, fun j hj => ?_⟩, hmk⟩
      obtain ⟨g, A, c, rfl, hg, s0, _⟩ := H.out.row hj
      exact ⟨g, A, c, rfl, Nat.lt_of_lt_of_le hg.2 hmk.size, sl_marks s0 hmk, hdone.out j hj g A c rfl s0⟩

set_option maxRecDepth 100000 in
set_option maxHeartbeats 3200000 in
theorem heldIntSS_any (lo : Nat) (v : Value) (n : Nat) (L : Nat → List Int) (w : World) (hn : n ≤ 1000) (hL : ∀ j, (L j).length ≤ 1000) (h : GrH lo w v n L) :
    Calls Try.prog 17 #[v, .int .i64 1] w fun e w' => e = .returned (.int .i64 (stL L n)) ∧ w = w' := by
  obtain ⟨A0, c0, rfl, h⟩ := h
  have H := Lib.hid h
  have HL := Lib.hid hL
  clear h hL
  go_enter Try.func17, Try.ntmps17
  go_wp2_with fail
  go_loopg [1, 5] n (fun q kv iv wr => ∃ (k : Nat) (x : Int), k + q = n ∧ iv = .int .i64 (k : Nat) ∧ kv = .int .i64 x ∧ Hid (x = stL L k) ∧ w = wr)
  case atStart => exact ⟨0, 1, by omega, rfl, rfl, Lib.hid rfl, rfl⟩
  case round =>
    obtain ⟨k, x, hkq, rfl, rfl, hx, rfl⟩ := hrel
    by_cases hk0 : k < n
    · obtain ⟨g, A, c, rfl, hg, s0, hr⟩ := H.out k hk0
      have hlk := HL.out k
      have hst := stL_in HL.out k
      have hxs := hx.out
      rw [← hxs] at hr
      have hki : (k : Int) < (n : Int) := by omega
      have CM := Lib.hid (heldFrom_any lo A (L k).length c x w (by omega) (by omega) hr)
      have HR := Lib.hid (show x + ((L k).length : Int) = stL L (k + 1) by rw [stL_succ, ← hxs])
      have dk : decide (x + ((L k).length : Int) < 0) = false := decide_eq_false (by omega)
      generalize (L k).length = m at s0 CM HR dk
      clear hr hst hlk hxs
      go_wp2_with (go_at_call 50; refine CM.out.mono ?_; rintro e w6 ⟨rfl, rfl⟩)
      go_roundg (gk - 1)
      case rel => exact ⟨k + 1, _, by omega, by go_num, rfl, HR, rfl⟩
      case measure => omega
    · obtain rfl : k = n := by omega
      go_wp2_with fail
      go_ret
      exact ⟨congrArg (fun z => Ending.returned (.int .i64 z)) hx.out, rfl⟩

end Go.Proofs.Ytdeilceakhgjlaa
