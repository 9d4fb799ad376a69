/-
  A copy of the statements, and the program's copy without the blocks that no path executes. (Written by gen_pgdp2.py.)
-/
import Derived.Test.YtdeilceakhgjlaaPgDp1
import Derived.Test.YtdeilceakhgjlaaPgCg3
namespace Go.Proofs.Ytdeilceakhgjlaa
open Go.RowKit Num

/-- The cells of the structs, chosen. -/
theorem Arr.pick {lo k : Nat} {R : World → Nat → (Nat → Value) → Prop} {w : World} {b n : Nat} {off : Nat} (h : Arr lo k R w (some ⟨b, off, none⟩) n) : ∃ C : Nat → Nat → Value, ∀ j, j < n → R w j (C j) ∧ (∀ c, c < k → w.cell? ⟨b, off + (j * k + c), none⟩ = some (C j c)) ∧ b < w.heap.size := by
  have key : ∀ j, ∃ C : Nat → Value, j < n → R w j C ∧ (∀ c, c < k → w.cell? ⟨b, off + (j * k + c), none⟩ = some (C c)) ∧ b < w.heap.size := fun j => by
    by_cases hj : j < n
    · obtain ⟨b', off', e, hs, h2⟩ := h (by omega)
      injection e with e
      injection e with e1 e2 _
      subst e1 e2
      obtain ⟨C, hC, hc⟩ := h2 j hj
      exact ⟨C, fun _ => ⟨hC, hc, hs.lt⟩⟩
    · exact ⟨fun _ => .bool false, fun z => absurd z hj⟩
  exact Classical.axiomOfChoice key
/-- The cells in a row. -/
def flat8 (C : Nat → Nat → Value) (n : Nat) : List Value := (List.range (n * 8)).map fun i => C (i / 8) (i % 8)
theorem flat8_len (C : Nat → Nat → Value) (n : Nat) : (flat8 C n).length = n * 8 := by simp [flat8]
theorem flat8_get (C : Nat → Nat → Value) {n i : Nat} (h : i < n * 8) : (flat8 C n)[i]? = some (C (i / 8) (i % 8)) := by
  rw [flat8, List.getElem?_map, List.getElem?_range h]; rfl
theorem stR_one {lo : Nat} {st : Nat → Stm} {w : World} {j : Nat} {C : Nat → Value} (h : StR lo st w j C) {c : Nat} (hc : c < 8) : (C c).oneCell' = true := by
  obtain ⟨h0, h1, h2, ⟨A3, c3, h3, _⟩, ⟨A4, c4, h4, _⟩, ⟨A5, c5, h5, _⟩, h6, h7⟩ := h
  match c, hc with
  | 0, _ => rw [h0]; rfl
  | 1, _ => rw [h1]; rfl
  | 2, _ => rw [h2]; rfl
  | 3, _ => rw [h3]; rfl
  | 4, _ => rw [h4]; rfl
  | 5, _ => rw [h5]; rfl
  | 6, _ => rw [h6]; rfl
  | 7, _ => rw [h7]; rfl

set_option maxRecDepth 100000 in
set_option maxHeartbeats 6400000 in
theorem cloneSt_any (lo : Nat) (b off n c : Nat) (st : Nat → Stm) (C : Nat → Nat → Value) (w : World) (hn : n ≤ 1048576) (hC : ∀ j, j < n → StR lo st w j (C j) ∧ (∀ i, i < 8 → w.cell? ⟨b, off + (j * 8 + i), none⟩ = some (C j i)) ∧ b < w.heap.size) :
    Calls Try.prog 86 #[.slice (some ⟨b, off, none⟩) n c] w fun e w' => ∃ g cg cs, e = .returned (.slice (some ⟨g, 0, none⟩) n cg) ∧ w.heap.size ≤ g ∧ Box w' g 110 cs ∧ (∀ j, j < n → ∀ i, i < 8 → cs[j * 8 + i]? = some (C j i)) ∧ Below w.heap.size w w' := by
  obtain ⟨i0, ji, jz0, jz1, jz2⟩ := info_three Try.infoStmt
  have hX : (w.alloc (.cells #[] 110)).ownsRow w.heap.size 110 8 (.slice (some ⟨w.heap.size, 0, none⟩) 0 0) 0 [] :=
    ⟨rfl, .inr ⟨w.heap.size, 0, #[], rfl, Nat.le_refl _, heap_alloc_new w _, Nat.le_refl _, by unfold maxLen; omega, rfl, rfl⟩⟩
  have hB := (Below.refl w.heap.size w).alloc (Nat.le_refl _) (.cells #[] 110)
  have HC := Lib.hid hC
  have he : ∀ W : World, (binOp .eql 34 (.slice (some ⟨b, off, none⟩) n c) (.slice none 0 0)).run Try.prog W = .ok (.bool false) W := fun _ => rfl
  clear hC
  go_enter Try.func86, Try.ntmps86
  go_wp2_with (at_builtin; refine wpList_append_own _ rfl _ _ 34 rfl w.heap.size 110 i0 (.agg #[.int .i64 0, .int .i64 0, .int .i64 0, .slice none 0 0, .slice none 0 0, .slice none 0 0, .int .i64 0, .int .i64 0]) 8 112 Try.underlying34 ji jz0 jz1 jz2 rfl (by decide) _ 0 [] rfl hX ⟨b, off, none⟩ n c (flat8 C n) rfl (flat8_len C n) (fun j u hu => by
      have hj : j < n * 8 := by
        rcases Nat.lt_or_ge j (n * 8) with h | h
        · exact h
        · rw [List.getElem?_eq_none (by rw [flat8_len]; exact h)] at hu; cases hu
      rw [flat8_get C hj] at hu
      injection hu with hu
      subst hu
      have h := HC.out (j / 8) (by omega)
      have h1 := h.2.1 (j % 8) (by omega)
      rw [show j / 8 * 8 + j % 8 = j by omega] at h1
      rw [addr_add]
      exact (hB.cell (p := ⟨b, off + j, none⟩) h.2.2).trans h1) (fun u hu => by
      simp only [flat8, List.mem_map, List.mem_range] at hu
      obtain ⟨i, hi, rfl⟩ := hu
      exact stR_one (HC.out (i / 8) (by omega)).1 (by omega)) (by unfold maxLen; omega) (by omega) (by simp) ?_; intro v6 w6 hown6 hgrow6 hnil6; have hB6 := hB.grown hgrow6 (by simp) (fun r hr => (hX.lt r hr).1))
  go_ret
  rcases hown6.2 with ⟨e, _⟩ | ⟨g, cap, cur, rfl, h3, h4, h5, h6, h7, h8⟩
  · exact absurd (hnil6.1 e).1 (by intro e; cases e)
  · rw [Nat.zero_add] at h8 ⊢
    refine ⟨g, cap, cur, rfl, h3, h4, fun j hj i hi => ?_, hB6⟩
    have h9 := congrArg (fun l : List Value => l[j * 8 + i]?) h8
    simp only [List.getElem?_take, if_pos (show j * 8 + i < n * 8 by omega), List.nil_append] at h9
    rw [← Array.getElem?_toList, h9, flat8_get C (by omega), show (j * 8 + i) / 8 = j by omega, show (j * 8 + i) % 8 = i by omega]

/-- The cells of the copy, of which the first k have lost their idle blocks. -/
def idC (P : Prg) (C : Nat → Nat → Value) (j i : Nat) : Value := if (P.st j).kind = 7 ∧ (P.st j).times = 0 then (if i = 4 then .slice none 0 0 else C j i) else C j i
def IdC (P : Prg) (C : Nat → Nat → Value) (k : Nat) (cs : Array Value) : Prop := ∀ j, j < P.ns → ∀ i, i < 8 → cs[j * 8 + i]? = some (if j < k then idC P C j i else C j i)
theorem IdC.same {P : Prg} {C : Nat → Nat → Value} {k : Nat} {cs : Array Value} (h : IdC P C k cs) (hk : ¬ ((P.st k).kind = 7 ∧ (P.st k).times = 0)) : IdC P C (k + 1) cs := fun j hj i hi => by
  rw [h j hj i hi]
  by_cases e : j = k
  · subst e
    rw [if_neg (Nat.lt_irrefl _), if_pos (Nat.lt_succ_self _), idC, if_neg hk]
  · by_cases h1 : j < k
    · rw [if_pos h1, if_pos (by omega)]
    · rw [if_neg h1, if_neg (by omega)]
theorem IdC.put {P : Prg} {C : Nat → Nat → Value} {k : Nat} {cs : Array Value} (h : IdC P C k cs) (hkn : k < P.ns) (hk : (P.st k).kind = 7 ∧ (P.st k).times = 0) : IdC P C (k + 1) (cs.setIfInBounds (k * 8 + 4) (.slice none 0 0)) := fun j hj i hi => by
  have hsz : k * 8 + 4 < cs.size := by
    have := h k hkn 4 (by omega)
    rcases Nat.lt_or_ge (k * 8 + 4) cs.size with h1 | h1
    · exact h1
    · rw [Array.getElem?_eq_none h1] at this; cases this
  rw [Array.getElem?_setIfInBounds]
  by_cases e : k * 8 + 4 = j * 8 + i
  · obtain rfl : j = k := by omega
    obtain rfl : i = 4 := by omega
    rw [if_pos rfl, if_pos hsz, if_pos (Nat.lt_succ_self _), idC, if_pos hk, if_pos rfl]
  · rw [if_neg e, h j hj i hi]
    by_cases e2 : j = k
    · subst e2
      rw [if_neg (Nat.lt_irrefl _), if_pos (Nat.lt_succ_self _), idC, if_pos hk, if_neg (by omega)]
    · by_cases h1 : j < k
      · rw [if_pos h1, if_pos (by omega)]
      · rw [if_neg h1, if_neg (by omega)]
/-- The copy reads as the program without its idle blocks. -/
theorem IdC.at_ {lo : Nat} {P : Prg} {C : Nat → Nat → Value} {cs : Array Value} {w w' : World} {g : Nat} (h : IdC P C P.ns cs) (hb : Box w' g 110 cs) (hC : ∀ j, j < P.ns → StR lo P.st w j (C j)) (hk : Keeps lo w w') : StAt 0 w' (some ⟨g, 0, none⟩) P.ns (idle P).st := by
  refine Arr.of_box (Nat.zero_le _) hb fun j hj => ⟨idC P C j, ?_, fun c hc => by rw [h j hj c hc, if_pos hj]⟩
  obtain ⟨h0, h1, h2, ⟨A3, c3, h3, g3⟩, ⟨A4, c4, h4, g4⟩, ⟨A5, c5, h5, g5⟩, h6, h7⟩ := StR.stays lo P.st _ _ _ _ (hC j hj) hk
  by_cases hi : (P.st j).kind = 7 ∧ (P.st j).times = 0
  · have e : (idle P).st j = { P.st j with nt := 0 } := if_pos hi
    have ec : ∀ i, i ≠ 4 → idC P C j i = C j i := fun i h => by rw [idC, if_pos hi, if_neg h]
    have e4 : idC P C j 4 = .slice none 0 0 := by rw [idC, if_pos hi, if_pos rfl]
    refine ⟨?_, ?_, ?_, ⟨A3, c3, ?_, ?_⟩, ⟨none, 0, ?_, ?_⟩, ⟨A5, c5, ?_, ?_⟩, ?_, ?_⟩
    all_goals rw [e]
    · rw [ec 0 (by omega)]; exact h0
    · rw [ec 1 (by omega)]; exact h1
    · rw [ec 2 (by omega)]; exact h2
    · rw [ec 3 (by omega)]; exact h3
    · exact g3.low (Nat.zero_le _)
    · rw [e4]
    · exact fun h => absurd h (Nat.lt_irrefl 0)
    · rw [ec 5 (by omega)]; exact h5
    · exact g5.low (Nat.zero_le _)
    · rw [ec 6 (by omega)]; exact h6
    · rw [ec 7 (by omega)]; exact h7
  · have e : (idle P).st j = P.st j := if_neg hi
    have ec : idC P C j = C j := by funext i; rw [idC, if_neg hi]
    rw [ec]
    refine ⟨?_, ?_, ?_, ⟨A3, c3, ?_, ?_⟩, ⟨A4, c4, ?_, ?_⟩, ⟨A5, c5, ?_, ?_⟩, ?_, ?_⟩
    all_goals rw [e]
    · exact h0
    · exact h1
    · exact h2
    · exact h3
    · exact g3.low (Nat.zero_le _)
    · exact h4
    · exact g4.low (Nat.zero_le _)
    · exact h5
    · exact g5.low (Nat.zero_le _)
    · exact h6
    · exact h7

set_option maxRecDepth 100000 in
set_option maxHeartbeats 6400000 in
theorem wIdle_any (lo : Nat) (P : Prg) (Av Ax Ap Ab : Option Addr) (b3 cv cx cs cp cb : Nat) (w : World) (hs : P.small) (h : PgAt lo w Av Ax (some ⟨b3, 0, none⟩) Ap Ab P) :
    Calls Try.prog 58 #[.agg #[.slice Av P.nv cv, .slice Ax P.nx cx, .slice (some ⟨b3, 0, none⟩) P.ns cs, .slice Ap P.np cp, .slice Ab P.nb cb, .int .i64 P.fuel]] w fun e w' => ∃ g cg, e = .returned (.agg #[.slice Av P.nv cv, .slice Ax P.nx cx, .slice (some ⟨g, 0, none⟩) P.ns cg, .slice Ap P.np cp, .slice Ab P.nb cb, .int .i64 P.fuel]) ∧ PgAt 0 w' Av Ax (some ⟨g, 0, none⟩) Ap Ab (idle P) ∧ Below w.heap.size w w' := by
  have hP := Box.new w 37 #[.slice Av P.nv cv, .slice Ax P.nx cx, .slice (some ⟨b3, 0, none⟩) P.ns cs, .slice Ap P.np cp, .slice Ab P.nb cb, .int .i64 P.fuel]
  have ha1 := (Below.refl w.heap.size w).alloc (Nat.le_refl _) (.cells #[.slice Av P.nv cv, .slice Ax P.nx cx, .slice (some ⟨b3, 0, none⟩) P.ns cs, .slice Ap P.np cp, .slice Ab P.nb cb, .int .i64 P.fuel] 37)
  obtain ⟨w1, hw1⟩ : ∃ w1, w1 = w.alloc (.cells #[.slice Av P.nv cv, .slice Ax P.nx cx, .slice (some ⟨b3, 0, none⟩) P.ns cs, .slice Ap P.np cp, .slice Ab P.nb cb, .int .i64 P.fuel] 37) := ⟨_, rfl⟩
  have hz1 : w1.heap.size = w.heap.size + 1 := by rw [hw1]; simp
  rw [← hw1] at hP ha1
  have hR := Box.new w1 37 #[.slice none 0 0, .slice none 0 0, .slice none 0 0, .slice none 0 0, .slice none 0 0, .int .i64 0]
  have ha2 := (Below.refl w1.heap.size w1).alloc (Nat.le_refl _) (.cells #[.slice none 0 0, .slice none 0 0, .slice none 0 0, .slice none 0 0, .slice none 0 0, .int .i64 0] 37)
  have hP2 := hP.alloc (.cells #[.slice none 0 0, .slice none 0 0, .slice none 0 0, .slice none 0 0, .slice none 0 0, .int .i64 0] 37)
  have hB2 := ha1.trans (ha2.mono ha1.size)
  obtain ⟨w2, hw2⟩ : ∃ w2, w2 = w1.alloc (.cells #[.slice none 0 0, .slice none 0 0, .slice none 0 0, .slice none 0 0, .slice none 0 0, .int .i64 0] 37) := ⟨_, rfl⟩
  have hz2 : w2.heap.size = w.heap.size + 2 := by rw [hw2]; simp [hz1]
  rw [← hw2] at hR hP2 hB2
  rw [hz1] at hR
  obtain ⟨C, hC⟩ := Arr.pick h.s
  have HC := Lib.hid hC
  have hns := hs.ns
  have CC := Lib.hid (cloneSt_any lo b3 0 P.ns cs P.st C w2 hns (fun j hj => ⟨StR.stays lo P.st _ _ _ _ (hC j hj).1 (Keeps.of_below hB2 (Nat.le_refl _)), fun i hi => (hB2.cell (p := ⟨b3, 0 + (j * 8 + i), none⟩) (hC j hj).2.2).trans ((hC j hj).2.1 i hi), Nat.lt_of_lt_of_le (hC j hj).2.2 hB2.size⟩))
  have H := Lib.hid h
  obtain ⟨q0, q1, q2, q3, q4, q5, qf⟩ := hP2.six
  clear h hs hC hP ha1 ha2
  go_enter Try.func58, Try.ntmps58
  go_upto_region 1 with fail
  rw [← hw1, ← hw2]
  clear hw1 hw2
  go_upto_region 2 with (go_at_call 86; refine CC.out.mono ?_; rintro e w3 ⟨g, cg, ms, rfl, hg, hbx, hms, hb3⟩; clear q0 q1 q2 q3 q4 q5 qf; replace hP2 := hP2.below hb3 hP2.lt; replace hR := hR.below hb3 hR.lt; replace hB2 := hB2.trans (hb3.mono hB2.size); obtain ⟨q0, q1, q2, q3, q4, q5, qf⟩ := hP2.six)
  rename World => w3
  have hgP : g ≠ w.heap.size := by omega
  have hgR : g ≠ w.heap.size + 1 := by omega
  have hP4 := hP2.set 2 (.slice (some ⟨g, 0, none⟩) P.ns cg)
  have hR4 := hR.far (show w.heap.size ≠ w.heap.size + 1 by omega) 2 (.slice (some ⟨g, 0, none⟩) P.ns cg)
  have hX4 := hbx.far (show w.heap.size ≠ g by omega) 2 (.slice (some ⟨g, 0, none⟩) P.ns cg)
  have hB4 := hB2.setCell (p := ⟨w.heap.size, 2, none⟩) (Nat.le_refl _) (.slice (some ⟨g, 0, none⟩) P.ns cg)
  have hI0 : IdC P C 0 ms := fun j hj i hi => by rw [if_neg (Nat.not_lt_zero j)]; exact hms j hj i hi
  generalize hw4 : w3.setCell ⟨w.heap.size, 2, none⟩ (.slice (some ⟨g, 0, none⟩) P.ns cg) = w4 at hP4 hR4 hX4 hB4 ⊢
  have hP4' : Box w4 w.heap.size 37 #[.slice Av P.nv cv, .slice Ax P.nx cx, .slice (some ⟨g, 0, none⟩) P.ns cg, .slice Ap P.np cp, .slice Ab P.nb cb, .int .i64 P.fuel] := hP4
  clear hw4 hP2 hR hbx hB2 hP4 hms q0 q1 q2 q3 q4 q5 qf CC
  obtain ⟨q0, q1, q2, q3, q4, q5, qf⟩ := hP4'.six
  go_wp2_with fail
  clear q0 q1 q2 q3 q4 q5 qf
  have hgl : w.heap.size ≤ g := by omega
  go_loopg [12] P.ns (fun q iv wr => ∃ (k : Nat) (ms : Array Value), k + q = P.ns ∧ iv = .int .i64 (k : Nat) ∧ Hid (IdC P C k ms) ∧ Box wr g 110 ms ∧ Box wr w.heap.size 37 #[.slice Av P.nv cv, .slice Ax P.nx cx, .slice (some ⟨g, 0, none⟩) P.ns cg, .slice Ap P.np cp, .slice Ab P.nb cb, .int .i64 P.fuel] ∧ Box wr (w.heap.size + 1) 37 #[.slice none 0 0, .slice none 0 0, .slice none 0 0, .slice none 0 0, .slice none 0 0, .int .i64 0] ∧ Below w.heap.size w wr)
  case atStart => exact ⟨0, ms, by omega, rfl, Lib.hid hI0, hX4, hP4', hR4, hB4⟩
  case round =>
    rename World => w5
    obtain ⟨k, ms5, hk, rfl, hI, hX, hP, hR, hB⟩ := hrel
    obtain ⟨q0, q1, q2, q3, q4, q5, qf⟩ := hP.six
    by_cases hk0 : k < P.ns
    · have hki : (k : Int) < (P.ns : Int) := by omega
      have t0 : w5.cell? ⟨g, k * 8, none⟩ = some (C k 0) := by
        rw [hX.cell]
        exact (hI.out k hk0 0 (by omega)).trans (by rw [if_neg (Nat.lt_irrefl _)])
      have t1 : w5.cell? ⟨g, k * 8 + 1, none⟩ = some (C k 1) := by
        rw [hX.cell]
        exact (hI.out k hk0 1 (by omega)).trans (by rw [if_neg (Nat.lt_irrefl _)])
      have t2 : w5.cell? ⟨g, k * 8 + 2, none⟩ = some (C k 2) := by
        rw [hX.cell]
        exact (hI.out k hk0 2 (by omega)).trans (by rw [if_neg (Nat.lt_irrefl _)])
      have t3 : w5.cell? ⟨g, k * 8 + 3, none⟩ = some (C k 3) := by
        rw [hX.cell]
        exact (hI.out k hk0 3 (by omega)).trans (by rw [if_neg (Nat.lt_irrefl _)])
      have t4 : w5.cell? ⟨g, k * 8 + 4, none⟩ = some (C k 4) := by
        rw [hX.cell]
        exact (hI.out k hk0 4 (by omega)).trans (by rw [if_neg (Nat.lt_irrefl _)])
      have t5 : w5.cell? ⟨g, k * 8 + 5, none⟩ = some (C k 5) := by
        rw [hX.cell]
        exact (hI.out k hk0 5 (by omega)).trans (by rw [if_neg (Nat.lt_irrefl _)])
      have t6 : w5.cell? ⟨g, k * 8 + 6, none⟩ = some (C k 6) := by
        rw [hX.cell]
        exact (hI.out k hk0 6 (by omega)).trans (by rw [if_neg (Nat.lt_irrefl _)])
      have t7 : w5.cell? ⟨g, k * 8 + 7, none⟩ = some (C k 7) := by
        rw [hX.cell]
        exact (hI.out k hk0 7 (by omega)).trans (by rw [if_neg (Nat.lt_irrefl _)])
      obtain ⟨c0, c1, c2, ⟨A3, d3, c3, _⟩, ⟨A4, d4, c4, _⟩, ⟨A5, d5, c5, _⟩, c6, c7⟩ := (HC.out k hk0).1
      replace t0 := t0.trans (congrArg some c0)
      replace t1 := t1.trans (congrArg some c1)
      replace t2 := t2.trans (congrArg some c2)
      replace t3 := t3.trans (congrArg some c3)
      replace t4 := t4.trans (congrArg some c4)
      replace t5 := t5.trans (congrArg some c5)
      replace t6 := t6.trans (congrArg some c6)
      replace t7 := t7.trans (congrArg some c7)
      have hV := Box.new w5 110 #[.int .i64 (P.st k).kind, .int .i64 (P.st k).var, .int .i64 (P.st k).ex, .slice A3 (P.st k).nc d3, .slice A4 (P.st k).nt d4, .slice A5 (P.st k).ne d5, .int .i64 (P.st k).times, .int .i64 (P.st k).proc]
      have hX6 := hX.alloc (.cells #[.int .i64 (P.st k).kind, .int .i64 (P.st k).var, .int .i64 (P.st k).ex, .slice A3 (P.st k).nc d3, .slice A4 (P.st k).nt d4, .slice A5 (P.st k).ne d5, .int .i64 (P.st k).times, .int .i64 (P.st k).proc] 110)
      have hP6 := hP.alloc (.cells #[.int .i64 (P.st k).kind, .int .i64 (P.st k).var, .int .i64 (P.st k).ex, .slice A3 (P.st k).nc d3, .slice A4 (P.st k).nt d4, .slice A5 (P.st k).ne d5, .int .i64 (P.st k).times, .int .i64 (P.st k).proc] 110)
      have hR6 := hR.alloc (.cells #[.int .i64 (P.st k).kind, .int .i64 (P.st k).var, .int .i64 (P.st k).ex, .slice A3 (P.st k).nc d3, .slice A4 (P.st k).nt d4, .slice A5 (P.st k).ne d5, .int .i64 (P.st k).times, .int .i64 (P.st k).proc] 110)
      have hB6 := hB.alloc hB.size (.cells #[.int .i64 (P.st k).kind, .int .i64 (P.st k).var, .int .i64 (P.st k).ex, .slice A3 (P.st k).nc d3, .slice A4 (P.st k).nt d4, .slice A5 (P.st k).ne d5, .int .i64 (P.st k).times, .int .i64 (P.st k).proc] 110)
      obtain ⟨w6, hw6⟩ : ∃ w6, w6 = w5.alloc (.cells #[.int .i64 (P.st k).kind, .int .i64 (P.st k).var, .int .i64 (P.st k).ex, .slice A3 (P.st k).nc d3, .slice A4 (P.st k).nt d4, .slice A5 (P.st k).ne d5, .int .i64 (P.st k).times, .int .i64 (P.st k).proc] 110) := ⟨_, rfl⟩
      rw [← hw6] at hV hX6 hP6 hR6 hB6
      have t4' := hX6.cell (k * 8 + 4)
      rw [show ms5[k * 8 + 4]? = some (.slice A4 (P.st k).nt d4) from (hI.out k hk0 4 (by omega)).trans (by rw [if_neg (Nat.lt_irrefl _)]; exact congrArg some c4)] at t4'
      clear c0 c1 c2 c3 c4 c5 c6 c7 hX hP hR hB
      go_upto_region 5 with fail
      rw [← hw6]
      clear hw6 t0 t1 t2 t3 t4 t5 t6 t7 q0 q1 q2 q3 q4 q5 qf
      obtain ⟨q0, q1, q2, q3, q4, q5, qf⟩ := hP6.six
      obtain ⟨v0, v1, v2, v3, v4, v5, v6, v7, vf⟩ := hV.eight
      by_cases hi : (P.st k).kind = 7 ∧ (P.st k).times = 0
      · have e7 : ((P.st k).kind == 7) = true := by rw [hi.1]; rfl
        have et : ((P.st k).times == 0) = true := by rw [hi.2]; rfl
        have HI := Lib.hid (hI.out.put hk0 hi)
        have f4 := hX6.free (k * 8 + 4)
        clear hi
        go_wp2_with fail
        go_roundg (gk - 1)
        case rel => exact ⟨k + 1, _, by omega, by go_num, HI, hX6.set _ _, hP6.far hgP _ _, hR6.far hgR _ _, hB6.setCell (p := ⟨g, k * 8 + 4, none⟩) hgl _⟩
        case measure => omega
      · have HI := Lib.hid (hI.out.same hi)
        have e7 : ((P.st k).kind == 7) = false ∨ (((P.st k).kind == 7) = true ∧ ((P.st k).times == 0) = false) := by
          by_cases h7 : (P.st k).kind = 7
          · exact .inr ⟨by rw [h7]; rfl, beq_eq_false_iff_ne.2 fun h => hi ⟨h7, h⟩⟩
          · exact .inl (beq_eq_false_iff_ne.2 h7)
        clear hi
        rcases e7 with e7 | ⟨e7, et⟩
        all_goals
          (go_wp2_with fail
           go_roundg (gk - 1)
           case rel => exact ⟨k + 1, _, by omega, by go_num, HI, hX6, hP6, hR6, hB6⟩
           case measure => omega)
    · obtain rfl : k = P.ns := by omega
      obtain ⟨z0, z1, z2, z3, z4, z5, fz⟩ := hR.six
      have hne : w.heap.size + 1 ≠ g := Ne.symm hgR
      have hF := (((((hR.set 0 (.slice Av P.nv cv)).set 1 (.slice Ax P.nx cx)).set 2 (.slice (some ⟨g, 0, none⟩) P.ns cg)).set 3 (.slice Ap P.np cp)).set 4 (.slice Ab P.nb cb)).set 5 (.int .i64 P.fuel)
      have hXF := (((((hX.far hne 0 (.slice Av P.nv cv)).far hne 1 (.slice Ax P.nx cx)).far hne 2 (.slice (some ⟨g, 0, none⟩) P.ns cg)).far hne 3 (.slice Ap P.np cp)).far hne 4 (.slice Ab P.nb cb)).far hne 5 (.int .i64 P.fuel)
      have hBF := (((((hB.setCell (p := ⟨w.heap.size + 1, 0, none⟩) (Nat.le_succ _) (.slice Av P.nv cv)).setCell (p := ⟨w.heap.size + 1, 1, none⟩) (Nat.le_succ _) (.slice Ax P.nx cx)).setCell (p := ⟨w.heap.size + 1, 2, none⟩) (Nat.le_succ _) (.slice (some ⟨g, 0, none⟩) P.ns cg)).setCell (p := ⟨w.heap.size + 1, 3, none⟩) (Nat.le_succ _) (.slice Ap P.np cp)).setCell (p := ⟨w.heap.size + 1, 4, none⟩) (Nat.le_succ _) (.slice Ab P.nb cb)).setCell (p := ⟨w.heap.size + 1, 5, none⟩) (Nat.le_succ _) (.int .i64 P.fuel)
      have k0 := hF.cell 0
      have k1 := hF.cell 1
      have k2 := hF.cell 2
      have k3 := hF.cell 3
      have k4 := hF.cell 4
      have k5 := hF.cell 5
      clear hP hR hX hB
      go_wp2_with fail
      refine bodyPost_ret (v := .agg #[.slice Av P.nv cv, .slice Ax P.nx cx, .slice (some ⟨g, 0, none⟩) P.ns cg, .slice Ap P.np cp, .slice Ab P.nb cb, .int .i64 P.fuel]) (by simp [results, Try.results58, go_sem, k0, k1, k2, k3, k4, k5]; done) rfl ⟨g, cg, rfl, ?_, hBF⟩
      have hlow := (H.out.below hBF (Nat.le_refl _)).low (Nat.zero_le _)
      exact ⟨hlow.v, hlow.x, hI.out.at_ hXF (fun j hj => (HC.out j hj).1) (Keeps.of_below hBF (Nat.le_refl _)), hlow.p, hlow.b⟩

end Go.Proofs.Ytdeilceakhgjlaa
