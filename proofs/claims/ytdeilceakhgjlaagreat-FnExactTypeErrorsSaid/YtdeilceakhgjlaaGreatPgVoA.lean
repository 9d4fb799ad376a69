/-
  Several texts in one: PgVo1, PgVo2, PgVo3.
-/
import Derived.Test.YtdeilceakhgjlaaGreatPgAs1
import Derived.Test.YtdeilceakhgjlaaGreatExprs3
import Derived.Test.YtdeilceakhgjlaaGreatPgEach
/-
  The variables of an expression, the mathematics: what is marked, round by round, and which variables are found.
-/
namespace Go.Proofs.YtdeilceakhgjlaaGreat
open Go.RowKit Num

/-- Expression i marks its operands. -/
def stepU (F : Nat → Nat → Int) (i : Nat) (u : Nat → Bool) : Nat → Bool :=
  if u i = true ∧ F i 0 ≠ 1 ∧ F i 0 ≠ 2 then (if F i 0 = 10 then setU u (F i 1).toNat else setU (setU u (F i 1).toNat) (F i 2).toNat) else u
/-- What is marked after k rounds from e down. -/
def pt (F : Nat → Nat → Int) (e : Nat) : Nat → (Nat → Bool)
  | 0 => fun j => j == e
  | k + 1 => stepU F (e - k) (pt F e k)
/-- The variables found on the way down. -/
def vI (F : Nat → Nat → Int) (e : Nat) : Nat → (Nat → Bool)
  | 0 => fun _ => false
  | k + 1 => if pt F e k (e - k) = true ∧ F (e - k) 0 = 2 then setU (vI F e k) (F (e - k) 3).toNat else vI F e k
/-- The variables found among the marked ones, on the way up. -/
def vS (U : Nat → Bool) (F : Nat → Nat → Int) : Nat → (Nat → Bool)
  | 0 => fun _ => false
  | k + 1 => if U k = true ∧ F k 0 = 2 then setU (vS U F k) (F k 3).toNat else vS U F k

theorem setU_iff {u : Nat → Bool} {v j : Nat} : setU u v j = true ↔ u j = true ∨ j = v := by simp [setU]
theorem vS_iff (U : Nat → Bool) (F : Nat → Nat → Int) (v : Nat) : ∀ k, vS U F k v = true ↔ ∃ i, i < k ∧ U i = true ∧ F i 0 = 2 ∧ (F i 3).toNat = v
  | 0 => ⟨fun h => (by cases h), fun ⟨i, h, _⟩ => absurd h (Nat.not_lt_zero i)⟩
  | k + 1 => by
    rw [vS]
    by_cases h : U k = true ∧ F k 0 = 2
    · rw [if_pos h, setU_iff, vS_iff U F v k]
      constructor
      · rintro (⟨i, h1, h2⟩ | rfl)
        · exact ⟨i, by omega, h2⟩
        · exact ⟨k, by omega, h.1, h.2, rfl⟩
      · rintro ⟨i, h1, h2, h3, h4⟩
        by_cases hik : i = k
        · subst hik; exact .inr h4.symm
        · exact .inl ⟨i, by omega, h2, h3, h4⟩
    · rw [if_neg h, vS_iff U F v k]
      constructor
      · rintro ⟨i, h1, h2⟩; exact ⟨i, by omega, h2⟩
      · rintro ⟨i, h1, h2, h3, h4⟩
        by_cases hik : i = k
        · subst hik; exact absurd ⟨h2, h3⟩ h
        · exact ⟨i, by omega, h2, h3, h4⟩
theorem vI_iff (F : Nat → Nat → Int) (e v : Nat) : ∀ k, vI F e k v = true ↔ ∃ r, r < k ∧ pt F e r (e - r) = true ∧ F (e - r) 0 = 2 ∧ (F (e - r) 3).toNat = v
  | 0 => ⟨fun h => (by cases h), fun ⟨i, h, _⟩ => absurd h (Nat.not_lt_zero i)⟩
  | k + 1 => by
    rw [vI]
    by_cases h : pt F e k (e - k) = true ∧ F (e - k) 0 = 2
    · rw [if_pos h, setU_iff, vI_iff F e v k]
      constructor
      · rintro (⟨i, h1, h2⟩ | rfl)
        · exact ⟨i, by omega, h2⟩
        · exact ⟨k, by omega, h.1, h.2, rfl⟩
      · rintro ⟨i, h1, h2, h3, h4⟩
        by_cases hik : i = k
        · subst hik; exact .inr h4.symm
        · exact .inl ⟨i, by omega, h2, h3, h4⟩
    · rw [if_neg h, vI_iff F e v k]
      constructor
      · rintro ⟨i, h1, h2⟩; exact ⟨i, by omega, h2⟩
      · rintro ⟨i, h1, h2, h3, h4⟩
        by_cases hik : i = k
        · subst hik; exact absurd ⟨h2, h3⟩ h
        · exact ⟨i, by omega, h2, h3, h4⟩

theorem exsOk_in {F : Nat → Nat → Int} {m : Nat} : ∀ {n k : Nat}, exsOk F m n = true → k < n → exOk (F k 0) (F k 1) (F k 2) (F k 3) k m = true
  | 0, _, _, h => absurd h (Nat.not_lt_zero _)
  | n + 1, k, h, hk => by
    simp only [exsOk, Bool.and_eq_true] at h
    by_cases e : k = n
    · subst e
      exact h.2
    · exact exsOk_in h.1 (by omega)
/-- The operands come before. -/
theorem ops_below {F : Nat → Nat → Int} {m n i : Nat} (h : exsOk F m n = true) (hi : i < n) (h1 : F i 0 ≠ 1) (h2 : F i 0 ≠ 2) : (0 ≤ F i 1 ∧ F i 1 < (i : Int)) ∧ (F i 0 ≠ 10 → 0 ≤ F i 2 ∧ F i 2 < (i : Int)) ∧ (F i 0 = 10 → F i 2 = 0) ∧ 3 ≤ F i 0 ∧ F i 0 ≤ 10 := by
  have ho := exsOk_in h hi
  by_cases h10 : F i 0 = 10
  · simp only [exOk, if_neg h1, if_neg h2, if_pos h10, decide_eq_true_eq] at ho
    exact ⟨by omega, fun h => absurd h10 h, fun _ => by omega, by omega, by omega⟩
  · simp only [exOk, if_neg h1, if_neg h2, if_neg h10, decide_eq_true_eq] at ho
    exact ⟨by omega, fun _ => by omega, fun h => absurd h h10, by omega, by omega⟩
theorem pt_stable {F : Nat → Nat → Int} {m n e k j : Nat} (h : exsOk F m n = true) (he : e < n) (hj : e - k ≤ j) : pt F e (k + 1) j = pt F e k j := by
  rw [pt, stepU]
  split
  · rename_i hc
    obtain ⟨⟨a0, a1⟩, hb, _⟩ := ops_below h (show e - k < n by omega) hc.2.1 hc.2.2
    have ha : (j == (F (e - k) 1).toNat) = false := beq_eq_false_iff_ne.2 (by omega)
    split
    · rw [setU, ha, Bool.or_false]
    · rename_i h10
      have := hb h10
      have hb' : (j == (F (e - k) 2).toNat) = false := beq_eq_false_iff_ne.2 (by omega)
      rw [setU, hb', Bool.or_false, setU, ha, Bool.or_false]
  · rfl
theorem pt_up {F : Nat → Nat → Int} {m n e : Nat} (h : exsOk F m n = true) (he : e < n) {r : Nat} : ∀ d, pt F e (r + d) (e - r) = pt F e r (e - r)
  | 0 => rfl
  | d + 1 => by
    rw [← Nat.add_assoc, pt_stable h he (by omega)]
    exact pt_up h he d
/-- Both ways find the same variables. -/
theorem vars_same {F : Nat → Nat → Int} {m n e : Nat} (h : exsOk F m n = true) (he : e < n) (v : Nat) : vS (pt F e (e + 1)) F (e + 1) v = vI F e (e + 1) v := by
  rw [Bool.eq_iff_iff, vS_iff, vI_iff]
  constructor
  · rintro ⟨i, h1, h2, h3, h4⟩
    have hu := pt_up h he (r := e - i) (i + 1)
    rw [show e - i + (i + 1) = e + 1 by omega, show e - (e - i) = i by omega, h2] at hu
    exact ⟨e - i, by omega, by rw [show e - (e - i) = i by omega]; exact hu.symm, by rw [show e - (e - i) = i by omega]; exact h3, by rw [show e - (e - i) = i by omega]; exact h4⟩
  · rintro ⟨r, h1, h2, h3, h4⟩
    have hu := pt_up h he (r := r) (e + 1 - r)
    rw [show r + (e + 1 - r) = e + 1 by omega, h2] at hu
    exact ⟨e - r, by omega, hu, h3, h4⟩

end Go.Proofs.YtdeilceakhgjlaaGreat
/-
  The variables of an expression, the model's. (Written by gen_pgvo.py.)
-/
namespace Go.Proofs.YtdeilceakhgjlaaGreat
open Go.RowKit Num

theorem BoolsC.falses (n : Nat) : BoolsC (madeCells #[.bool false] n) n (fun _ => false) := by
  refine ⟨size_madeCells _ _, fun m hm => ?_⟩
  have h1 : (madeCells #[Value.bool false] n).toList[m]? = some (.bool false) := by rw [toList_madeCells_one, List.getElem?_replicate, if_pos hm]
  rw [← Array.getElem?_toList, h1]
theorem pt_zero (F : Nat → Nat → Int) (e : Nat) : pt F e 0 = setU (fun _ => false) e := by funext j; simp [pt, setU]

set_option maxRecDepth 100000 in
set_option maxHeartbeats 6400000 in
theorem parts_any (lo : Nat) (P : Prg) (Av Ax As Ap Ab : Option Addr) (cv cx cs cp cb e : Nat) (w : World) (hx : exsOk P.ex P.nv P.nx = true) (hnx : P.nx ≤ 40) (he : e < P.nx) (h : ExL lo w Ax P.nx P.ex) :
    Calls Tryz.prog 113 #[.agg #[.slice Av P.nv cv, .slice Ax P.nx cx, .slice As P.ns cs, .slice Ap P.np cp, .slice Ab P.nb cb, .int .i64 P.fuel], .int .i64 (e : Nat)] w fun r w' => ∃ G cs', r = .returned (.slice (some ⟨G, 0, none⟩) (e + 1) (e + 1)) ∧ Box w' G 4 cs' ∧ BoolsC cs' (e + 1) (pt P.ex e (e + 1)) ∧ Below w.heap.size w w' ∧ w.heap.size ≤ G := by
  have hP := Box.new w 38 #[.slice Av P.nv cv, .slice Ax P.nx cx, .slice As P.ns cs, .slice Ap P.np cp, .slice Ab P.nb cb, .int .i64 P.fuel]
  have hB := (Below.refl w.heap.size w).alloc (Nat.le_refl _) (.cells #[.slice Av P.nv cv, .slice Ax P.nx cx, .slice As P.ns cs, .slice Ap P.np cp, .slice Ab P.nb cb, .int .i64 P.fuel] 38)
  obtain ⟨n, hn⟩ : ∃ n, n = e + 1 := ⟨_, rfl⟩
  have hmk := mk_bool n (by omega)
  have wn : IntKind.i64.wrap ((e : Int) + 1) = (n : Int) := by rw [IntWalk.i64_in _ (by omega)]; omega
  obtain ⟨w1, hw1⟩ : ∃ w1, w1 = w.alloc (.cells #[.slice Av P.nv cv, .slice Ax P.nx cx, .slice As P.ns cs, .slice Ap P.np cp, .slice Ab P.nb cb, .int .i64 P.fuel] 38) := ⟨_, rfl⟩
  rw [← hw1] at hP hB
  obtain ⟨G, hG⟩ : ∃ G, G = w.heap.size + 1 := ⟨_, rfl⟩
  have hG1 : w1.heap.size = G := by rw [hw1, hG]; simp
  have hPG : w.heap.size ≠ G := by omega
  have hX := Box.new w1 4 (madeCells #[.bool false] n)
  rw [hG1] at hX
  have hal := (Below.refl w1.heap.size w1).alloc (Nat.le_refl _) (.cells (madeCells #[.bool false] n) 4)
  have hP2 := hP.alloc (.cells (madeCells #[.bool false] n) 4)
  have hB2 := hB.trans (hal.mono hB.size)
  obtain ⟨w2, hw2⟩ : ∃ w2, w2 = w1.alloc (.cells (madeCells #[.bool false] n) 4) := ⟨_, rfl⟩
  rw [← hw2] at hX hP2 hB2
  obtain ⟨q0, q1, q2, q3, q4, q5, qf⟩ := hP.six
  have H := Lib.hid h
  have HX := Lib.hid hx
  have HN := Lib.hid hn
  have hen : (e : Int) < (n : Int) := by omega
  have henn : e < n := by omega
  clear h hx hal hP hB hn
  go_enter Tryz.func113, Tryz.ntmps113
  go_upto_region 2 with fail
  rw [← hw1, ← hG, ← hw2]
  have HG := Lib.hid hG
  clear hw1 hw2 hmk hG hG1 q0 q1 q2 q3 q4 q5 qf wn
  have k0 := (BoolsC.falses n).at_ hX henn
  have f0 := hX.free e
  go_wp2_with fail
  go_loopg [6] n (fun q iv wr => ∃ (k : Nat) (cs' : Array Value), k + q = n ∧ ((∃ i : Nat, i + k = e ∧ iv = .int .i64 (i : Nat)) ∨ (k = e + 1 ∧ iv = .int .i64 (-1))) ∧ Hid (BoolsC cs' n (pt P.ex e k)) ∧ Box wr G 4 cs' ∧ Below w.heap.size w wr ∧ Box wr w.heap.size 38 #[.slice Av P.nv cv, .slice Ax P.nx cx, .slice As P.ns cs, .slice Ap P.np cp, .slice Ab P.nb cb, .int .i64 P.fuel])
  case atStart => exact ⟨0, _, by omega, .inl ⟨e, by omega, rfl⟩, Lib.hid (by rw [pt_zero]; exact (BoolsC.falses n).put henn), hX.set _ _, hB2.setCell (p := ⟨G, e, none⟩) (by rw [HG.out]; exact Nat.le_succ _) _, hP2.far (Ne.symm hPG) _ _⟩
  case round =>
    rename World => w3
    obtain ⟨k, cs3, hk, hiv, hc, hbx, hbel, hP⟩ := hrel
    rcases hiv with ⟨i, hik, rfl⟩ | ⟨hke, rfl⟩
    · have hin : i < n := by omega
      have hii : (i : Int) < (n : Int) := by omega
      have hix : i < P.nx := by have := HN.out; omega
      have hixx : (i : Int) < (P.nx : Int) := by omega
      have hge : decide ((0 : Int) ≤ (i : Int)) = true := decide_eq_true (by omega)
      have hek : e - k = i := by omega
      obtain ⟨b, off, rfl, hb, r0, r1, r2, r3⟩ := (H.out.below hbel (Nat.le_refl _)).1.at_ hix
      have wi : IntKind.i64.wrap ((i : Int) - 1) = (i : Int) - 1 := IntWalk.i64_in _ (by omega)
      obtain ⟨q0, q1, q2, q3, q4, q5, qf⟩ := hP.six
      have hG2 : w.heap.size ≤ G := by rw [HG.out]; exact Nat.le_succ _
      cases hu : pt P.ex e k i with
      | false =>
        have HS : Hid (pt P.ex e k = pt P.ex e (k + 1)) := Lib.hid (by rw [pt, hek, stepU, if_neg (by rw [hu]; simp)])
        have hV := Box.new w3 152 #[.int .i64 (P.ex i 0), .int .i64 (P.ex i 1), .int .i64 (P.ex i 2), .int .i64 (P.ex i 3)]
        have hal := (Below.refl w3.heap.size w3).alloc (Nat.le_refl _) (.cells #[.int .i64 (P.ex i 0), .int .i64 (P.ex i 1), .int .i64 (P.ex i 2), .int .i64 (P.ex i 3)] 152)
        have v0 := hV.cell 0
        have v1 := hV.cell 1
        have v2 := hV.cell 2
        have v3 := hV.cell 3
        have hbx4 := hbx.alloc (.cells #[.int .i64 (P.ex i 0), .int .i64 (P.ex i 1), .int .i64 (P.ex i 2), .int .i64 (P.ex i 3)] 152)
        have hP4 := hP.alloc (.cells #[.int .i64 (P.ex i 0), .int .i64 (P.ex i 1), .int .i64 (P.ex i 2), .int .i64 (P.ex i 3)] 152)
        have hB4 := hbel.trans (hal.mono hbel.size)
        have k0 := hc.out.at_ hbx4 hin
        rw [hu] at k0
        clear hu hek
        go_wp2_with fail
        go_roundg (gk - 1)
        case rel =>
          refine ⟨k + 1, cs3, by omega, ?_, Lib.hid (HS.out ▸ hc.out), hbx4, hB4, hP4⟩
          by_cases hi0 : i = 0
          · exact .inr ⟨by omega, congrArg (Value.int .i64) (by rw [hi0]; rfl)⟩
          · exact .inl ⟨i - 1, by omega, congrArg (Value.int .i64) (by omega)⟩
        case measure => omega
      | true =>
        by_cases o12 : P.ex i 0 = 1 ∨ P.ex i 0 = 2
        · have HS : Hid (pt P.ex e k = pt P.ex e (k + 1)) := Lib.hid (by rw [pt, hek, stepU, if_neg (by rcases o12 with h | h <;> simp [h])])
          have hb12 : (P.ex i 0 == 1) = true ∨ ((P.ex i 0 == 1) = false ∧ (P.ex i 0 == 2) = true) := by
            rcases o12 with h | h
            · exact .inl (by rw [h]; rfl)
            · exact .inr ⟨by rw [h]; rfl, by rw [h]; rfl⟩
          have hV := Box.new w3 152 #[.int .i64 (P.ex i 0), .int .i64 (P.ex i 1), .int .i64 (P.ex i 2), .int .i64 (P.ex i 3)]
          have hal := (Below.refl w3.heap.size w3).alloc (Nat.le_refl _) (.cells #[.int .i64 (P.ex i 0), .int .i64 (P.ex i 1), .int .i64 (P.ex i 2), .int .i64 (P.ex i 3)] 152)
          have v0 := hV.cell 0
          have v1 := hV.cell 1
          have v2 := hV.cell 2
          have v3 := hV.cell 3
          have hbx4 := hbx.alloc (.cells #[.int .i64 (P.ex i 0), .int .i64 (P.ex i 1), .int .i64 (P.ex i 2), .int .i64 (P.ex i 3)] 152)
          have hP4 := hP.alloc (.cells #[.int .i64 (P.ex i 0), .int .i64 (P.ex i 1), .int .i64 (P.ex i 2), .int .i64 (P.ex i 3)] 152)
          have hB4 := hbel.trans (hal.mono hbel.size)
          have k0 := hc.out.at_ hbx4 hin
          rw [hu] at k0
          clear hu hek o12
          rcases hb12 with o1 | ⟨o1, o2⟩
          all_goals
            (go_wp2_with fail
             go_roundg (gk - 1)
             case rel =>
               refine ⟨k + 1, cs3, by omega, ?_, Lib.hid (HS.out ▸ hc.out), hbx4, hB4, hP4⟩
               by_cases hi0 : i = 0
               · exact .inr ⟨by omega, congrArg (Value.int .i64) (by rw [hi0]; rfl)⟩
               · exact .inl ⟨i - 1, by omega, congrArg (Value.int .i64) (by omega)⟩
             case measure => omega)
        · have n1 : P.ex i 0 ≠ 1 := fun h => o12 (.inl h)
          have n2 : P.ex i 0 ≠ 2 := fun h => o12 (.inr h)
          obtain ⟨⟨a0, a1⟩, hbb, hb10, _, _⟩ := ops_below HX.out hix n1 n2
          obtain ⟨a, ha⟩ : ∃ a : Nat, P.ex i 1 = (a : Int) := ⟨(P.ex i 1).toNat, by omega⟩
          have han : a < n := by omega
          have hai : (a : Int) < (n : Int) := by omega
          have o1 : (P.ex i 0 == 1) = false := beq_eq_false_iff_ne.2 n1
          have o2 : (P.ex i 0 == 2) = false := beq_eq_false_iff_ne.2 n2
          by_cases h10 : P.ex i 0 = 10
          · have HS : Hid (setU (pt P.ex e k) a = pt P.ex e (k + 1)) := Lib.hid (by rw [pt, hek, stepU, if_pos ⟨hu, n1, n2⟩, if_pos h10, ha, Int.toNat_natCast])
            have o10 : (P.ex i 0 != 10) = false := by rw [h10]; rfl
            rw [ha] at r1
            have hV := Box.new w3 152 #[.int .i64 (P.ex i 0), .int .i64 (a : Nat), .int .i64 (P.ex i 2), .int .i64 (P.ex i 3)]
            have hal := (Below.refl w3.heap.size w3).alloc (Nat.le_refl _) (.cells #[.int .i64 (P.ex i 0), .int .i64 (a : Nat), .int .i64 (P.ex i 2), .int .i64 (P.ex i 3)] 152)
            have v0 := hV.cell 0
            have v1 := hV.cell 1
            have v2 := hV.cell 2
            have v3 := hV.cell 3
            have hbx4 := hbx.alloc (.cells #[.int .i64 (P.ex i 0), .int .i64 (a : Nat), .int .i64 (P.ex i 2), .int .i64 (P.ex i 3)] 152)
            have hP4 := hP.alloc (.cells #[.int .i64 (P.ex i 0), .int .i64 (a : Nat), .int .i64 (P.ex i 2), .int .i64 (P.ex i 3)] 152)
            have hB4 := hbel.trans (hal.mono hbel.size)
            have k0 := hc.out.at_ hbx4 hin
            rw [hu] at k0
            have ka := hc.out.at_ hbx4 han
            have fa := hbx4.free a
            have hne : w3.heap.size ≠ G := Nat.ne_of_gt hbx.lt
            have u0 := (hV.far (Ne.symm hne) a (.bool true)).cell 0
            clear hu hek o12 n1 n2 hbb hb10 ha a0 a1 h10
            go_wp2_with fail
            go_roundg (gk - 1)
            case rel =>
              refine ⟨k + 1, _, by omega, ?_, Lib.hid (HS.out ▸ hc.out.put han), hbx4.set _ _, hB4.setCell (p := ⟨G, a, none⟩) hG2 _, hP4.far (Ne.symm hPG) _ _⟩
              by_cases hi0 : i = 0
              · exact .inr ⟨by omega, congrArg (Value.int .i64) (by rw [hi0]; rfl)⟩
              · exact .inl ⟨i - 1, by omega, congrArg (Value.int .i64) (by omega)⟩
            case measure => omega
          · obtain ⟨b0, b1⟩ := hbb h10
            obtain ⟨b2, hb2⟩ : ∃ b2 : Nat, P.ex i 2 = (b2 : Int) := ⟨(P.ex i 2).toNat, by omega⟩
            have hbn : b2 < n := by omega
            have hbi : (b2 : Int) < (n : Int) := by omega
            have HS : Hid (setU (setU (pt P.ex e k) a) b2 = pt P.ex e (k + 1)) := Lib.hid (by rw [pt, hek, stepU, if_pos ⟨hu, n1, n2⟩, if_neg h10, ha, hb2, Int.toNat_natCast, Int.toNat_natCast])
            have o10 : (P.ex i 0 != 10) = true := by simp [h10]
            rw [ha] at r1
            rw [hb2] at r2
            have hV := Box.new w3 152 #[.int .i64 (P.ex i 0), .int .i64 (a : Nat), .int .i64 (b2 : Nat), .int .i64 (P.ex i 3)]
            have hal := (Below.refl w3.heap.size w3).alloc (Nat.le_refl _) (.cells #[.int .i64 (P.ex i 0), .int .i64 (a : Nat), .int .i64 (b2 : Nat), .int .i64 (P.ex i 3)] 152)
            have v0 := hV.cell 0
            have v1 := hV.cell 1
            have v2 := hV.cell 2
            have v3 := hV.cell 3
            have hbx4 := hbx.alloc (.cells #[.int .i64 (P.ex i 0), .int .i64 (a : Nat), .int .i64 (b2 : Nat), .int .i64 (P.ex i 3)] 152)
            have hP4 := hP.alloc (.cells #[.int .i64 (P.ex i 0), .int .i64 (a : Nat), .int .i64 (b2 : Nat), .int .i64 (P.ex i 3)] 152)
            have hB4 := hbel.trans (hal.mono hbel.size)
            have k0 := hc.out.at_ hbx4 hin
            rw [hu] at k0
            have ka := hc.out.at_ hbx4 han
            have fa := hbx4.free a
            have hbx5 := hbx4.set a (.bool true)
            have kb := (hc.out.put han).at_ hbx5 hbn
            have fb := hbx5.free b2
            have hne : w3.heap.size ≠ G := Nat.ne_of_gt hbx.lt
            have hV5 := hV.far (Ne.symm hne) a (.bool true)
            have u0 := hV5.cell 0
            have u2 := hV5.cell 2
            clear hu hek o12 n1 n2 hbb hb10 ha a0 a1 h10 b0 b1 hb2
            go_wp2_with fail
            go_roundg (gk - 1)
            case rel =>
              refine ⟨k + 1, _, by omega, ?_, Lib.hid (HS.out ▸ (hc.out.put han).put hbn), hbx5.set _ _, (hB4.setCell (p := ⟨G, a, none⟩) hG2 _).setCell (p := ⟨G, b2, none⟩) hG2 _, (hP4.far (Ne.symm hPG) _ _).far (Ne.symm hPG) _ _⟩
              by_cases hi0 : i = 0
              · exact .inr ⟨by omega, congrArg (Value.int .i64) (by rw [hi0]; rfl)⟩
              · exact .inl ⟨i - 1, by omega, congrArg (Value.int .i64) (by omega)⟩
            case measure => omega
    · have hkn : k = n := by have := HN.out; omega
      go_wp2_with fail
      go_ret
      refine ⟨G, cs3, by rw [HN.out]; rfl, hbx, ?_, hbel, by rw [HG.out]; exact Nat.le_succ _⟩
      have := hc.out
      rw [hke, HN.out] at this
      exact this

end Go.Proofs.YtdeilceakhgjlaaGreat
/-
  The variables of an expression, the model's list. (Written by gen_pgvo.py.)
-/
namespace Go.Proofs.YtdeilceakhgjlaaGreat
open Go.RowKit Num

set_option maxRecDepth 100000 in
set_option maxHeartbeats 6400000 in
theorem varsOf_any (lo : Nat) (P : Prg) (Av Ax As Ap Ab : Option Addr) (cv cx cs cp cb e : Nat) (w : World) (hx : exsOk P.ex P.nv P.nx = true) (hnx : P.nx ≤ 40) (hnv : P.nv ≤ 5) (he : e < P.nx) (h : ExL lo w Ax P.nx P.ex) :
    Calls Tryz.prog 55 #[.agg #[.slice Av P.nv cv, .slice Ax P.nx cx, .slice As P.ns cs, .slice Ap P.np cp, .slice Ab P.nb cb, .int .i64 P.fuel], .int .i64 (e : Nat)] w fun r w' => ∃ A c, r = .returned (.slice A (ups (vI P.ex e (e + 1)) 5).length c) ∧ LsAt w.heap.size w' A (ups (vI P.ex e (e + 1)) 5) ∧ Below w.heap.size w w' := by
  have hP := Box.new w 38 #[.slice Av P.nv cv, .slice Ax P.nx cx, .slice As P.ns cs, .slice Ap P.np cp, .slice Ab P.nb cb, .int .i64 P.fuel]
  have hB := (Below.refl w.heap.size w).alloc (Nat.le_refl _) (.cells #[.slice Av P.nv cv, .slice Ax P.nx cx, .slice As P.ns cs, .slice Ap P.np cp, .slice Ab P.nb cb, .int .i64 P.fuel] 38)
  obtain ⟨q0, q1, q2, q3, q4, q5, qf⟩ := hP.six
  have H := Lib.hid h
  have HX := Lib.hid hx
  have hE : ups (vI P.ex e (e + 1)) 5 = ups (vS (pt P.ex e (e + 1)) P.ex (e + 1)) 5 := ups_congr fun j _ => (vars_same hx he j).symm
  rw [hE]
  have CP := Lib.hid (parts_any lo P Av Ax As Ap Ab cv cx cs cp cb e (w.alloc (.cells #[.slice Av P.nv cv, .slice Ax P.nx cx, .slice As P.ns cs, .slice Ap P.np cp, .slice Ab P.nb cb, .int .i64 P.fuel] 38)) hx hnx he (h.below hB (Nat.le_refl _)))
  obtain ⟨U, hU⟩ : ∃ U, U = pt P.ex e (e + 1) := ⟨_, rfl⟩
  obtain ⟨n, hn⟩ : ∃ n, n = e + 1 := ⟨_, rfl⟩
  rw [← hU] at CP ⊢
  rw [← hn] at CP ⊢
  have HN := Lib.hid hn
  clear h hx hE hU hn
  go_enter Tryz.func55, Tryz.ntmps55
  go_wp2_with (go_at_call 113; refine CP.out.mono ?_; rintro r w3 ⟨G, cs3, rfl, hbx, hc, hb3, hG⟩)
  clear q0 q1 q2 q3 q4 q5 qf
  replace hP := hP.below hb3 hP.lt
  replace hB := hB.trans (hb3.mono hB.size)
  have HC := Lib.hid hc
  clear hb3 hc CP
  go_wp2_with fail
  go_loopg [5, 12] n (fun q ov iv wr => ∃ k : Nat, k + q = n ∧ iv = .int .i64 (k : Nat) ∧ OutAt w.heap.size wr ov (ups (vS U P.ex k) 5) ∧ Below w3.heap.size w3 wr)
  case atStart => exact ⟨0, by omega, rfl, .inl ⟨by rw [vS]; exact (by decide : ups (fun _ => false) 5 = []), rfl⟩, Below.refl _ _⟩
  case round =>
    rename World => w4
    obtain ⟨k, hk, rfl, ho, hbel⟩ := hrel
    replace hP := hP.below hbel hP.lt
    replace hB := hB.trans (hbel.mono hB.size)
    replace hbx := hbx.below hbel hbx.lt
    by_cases hk0 : k < n
    · obtain ⟨q0, q1, q2, q3, q4, q5, qf⟩ := hP.six
      have k0 := HC.out.at_ hbx hk0
      have hkx : k < P.nx := by have := HN.out; omega
      have hkxi : (k : Int) < (P.nx : Int) := by omega
      obtain ⟨b, off, rfl, hb, r0, r1, r2, r3⟩ := (H.out.below hB (Nat.le_refl _)).1.at_ hkx
      have hlo := hB.size
      cases hu : U k with
      | false =>
        have HS : Hid (vS U P.ex k = vS U P.ex (k + 1)) := Lib.hid (by rw [vS, if_neg (by rw [hu]; simp)])
        rw [hu] at k0
        clear hu
        go_wp2_with fail
        go_roundg (gk - 1)
        case rel => exact ⟨k + 1, by omega, by go_num, HS.out ▸ ho, hbel⟩
        case measure => omega
      | true =>
        rw [hu] at k0
        by_cases o2 : P.ex k 0 = 2
        · have hx2 := exsOk_in HX.out hkx
          have hv : 0 ≤ P.ex k 3 ∧ P.ex k 3 < (P.nv : Int) := by
            have n1 : P.ex k 0 ≠ 1 := by omega
            simp only [exOk, if_neg n1, if_pos o2, decide_eq_true_eq] at hx2
            omega
          obtain ⟨v, hvv⟩ : ∃ v : Nat, P.ex k 3 = (v : Int) := ⟨(P.ex k 3).toNat, by omega⟩
          have hv5 : v < 5 := by omega
          have HS : Hid (setU (vS U P.ex k) v = vS U P.ex (k + 1)) := Lib.hid (by rw [vS, if_pos ⟨hu, o2⟩, hvv, Int.toNat_natCast])
          have e2 : (P.ex k 0 == 2) = true := by rw [o2]; rfl
          rw [hvv] at r3
          clear hu o2 hx2 hv hvv
          go_wp2_with (go_at_call 79; refine (put_any w.heap.size (vS U P.ex k) 5 v _ _ hv5 (by omega) hlo ho).mono ?_; rintro r w5 ⟨xv5, rfl, ho5, hb5⟩)
          go_roundg (gk - 1)
          case rel => exact ⟨k + 1, by omega, by go_num, HS.out ▸ ho5, hbel.trans (hb5.mono hbel.size)⟩
          case measure => omega
        · have HS : Hid (vS U P.ex k = vS U P.ex (k + 1)) := Lib.hid (by rw [vS, if_neg (fun h => o2 h.2)])
          have e2 : (P.ex k 0 == 2) = false := beq_eq_false_iff_ne.2 o2
          clear hu o2
          go_wp2_with fail
          go_roundg (gk - 1)
          case rel => exact ⟨k + 1, by omega, by go_num, HS.out ▸ ho, hbel⟩
          case measure => omega
    · obtain rfl : k = n := by omega
      obtain ⟨A5, c5, rfl, hl⟩ := ho.at_
      go_wp2_with fail
      go_ret
      exact ⟨A5, c5, rfl, hl, hB⟩

end Go.Proofs.YtdeilceakhgjlaaGreat
