/-
  The variables of an expression, the model's. (Written by gen_pgvo.py.)
-/
import Derived.Test.YtcdgbjklfmlhkaaPgVo1
import Derived.Test.YtcdgbjklfmlhkaaPgEach
namespace Go.Proofs.Ytcdgbjklfmlhkaa
open Go.RowKit Num

theorem BoolsC.falses (n : Nat) : BoolsC (madeCells #[.bool false] n) n (fun _ => false) := by
  refine ⟨size_madeCells _ _, fun m hm => ?_⟩
  have h1 : (madeCells #[Value.bool false] n).toList[m]? = some (.bool false) := by rw [toList_madeCells_one, List.getElem?_replicate, if_pos hm]
  rw [← Array.getElem?_toList, h1]
theorem pt_zero (F : Nat → Nat → Int) (e : Nat) : pt F e 0 = setU (fun _ => false) e := by funext j; simp [pt, setU]

set_option maxRecDepth 100000 in
set_option maxHeartbeats 6400000 in
theorem parts_any (lo : Nat) (P : Prg) (Av Ax As Ap Ab : Option Addr) (cv cx cs cp cb e : Nat) (w : World) (hx : exsOk P.ex P.nv P.nx = true) (hnx : P.nx ≤ 40) (he : e < P.nx) (h : ExL lo w Ax P.nx P.ex) :
    Calls Try.prog 114 #[.agg #[.slice Av P.nv cv, .slice Ax P.nx cx, .slice As P.ns cs, .slice Ap P.np cp, .slice Ab P.nb cb, .int .i64 P.fuel], .int .i64 (e : Nat)] w fun r w' => ∃ G cs', r = .returned (.slice (some ⟨G, 0, none⟩) (e + 1) (e + 1)) ∧ Box w' G 4 cs' ∧ BoolsC cs' (e + 1) (pt P.ex e (e + 1)) ∧ Below w.heap.size w w' ∧ w.heap.size ≤ G := by
  have hP := Box.new w 37 #[.slice Av P.nv cv, .slice Ax P.nx cx, .slice As P.ns cs, .slice Ap P.np cp, .slice Ab P.nb cb, .int .i64 P.fuel]
  have hB := (Below.refl w.heap.size w).alloc (Nat.le_refl _) (.cells #[.slice Av P.nv cv, .slice Ax P.nx cx, .slice As P.ns cs, .slice Ap P.np cp, .slice Ab P.nb cb, .int .i64 P.fuel] 37)
  obtain ⟨n, hn⟩ : ∃ n, n = e + 1 := ⟨_, rfl⟩
  have hmk := mk_bool n (by omega)
  have wn : IntKind.i64.wrap ((e : Int) + 1) = (n : Int) := by rw [IntWalk.i64_in _ (by omega)]; omega
  obtain ⟨w1, hw1⟩ : ∃ w1, w1 = w.alloc (.cells #[.slice Av P.nv cv, .slice Ax P.nx cx, .slice As P.ns cs, .slice Ap P.np cp, .slice Ab P.nb cb, .int .i64 P.fuel] 37) := ⟨_, rfl⟩
  rw [← hw1] at hP hB
  obtain ⟨G, hG⟩ : ∃ G, G = w.heap.size + 1 := ⟨_, rfl⟩
  have hG1 : w1.heap.size = G := by rw [hw1, hG]; simp
  have hPG : w.heap.size ≠ G := by omega
  have hX := Box.new w1 4 (madeCells #[.bool false] n)
  rw [hG1] at hX
  have hal := (Below.refl w1.heap.size w1).alloc (Nat.le_refl _) (.cells (madeCells #[.bool false] n) 4)
  have hP2 := hP.alloc (.cells (madeCells #[.bool false] n) 4)
  have hB2 := hB.trans (hal.mono hB.size)
  obtain ⟨w2, hw2⟩ : ∃ w2, w2 = w1.alloc (.cells (madeCells #[.bool false] n) 4) := ⟨_, rfl⟩
  rw [← hw2] at hX hP2 hB2
  obtain ⟨q0, q1, q2, q3, q4, q5, qf⟩ := hP.six
  have H := Lib.hid h
  have HX := Lib.hid hx
  have HN := Lib.hid hn
  have hen : (e : Int) < (n : Int) := by omega
  have henn : e < n := by omega
  clear h hx hal hP hB hn
  go_enter Try.func114, Try.ntmps114
  go_upto_region 2 with fail
  rw [← hw1, ← hG, ← hw2]
  have HG := Lib.hid hG
  clear hw1 hw2 hmk hG hG1 q0 q1 q2 q3 q4 q5 qf wn
  have k0 := (BoolsC.falses n).at_ hX henn
  have f0 := hX.free e
  go_wp2_with fail
  go_loopg [6] n (fun q iv wr => ∃ (k : Nat) (cs' : Array Value), k + q = n ∧ ((∃ i : Nat, i + k = e ∧ iv = .int .i64 (i : Nat)) ∨ (k = e + 1 ∧ iv = .int .i64 (-1))) ∧ Hid (BoolsC cs' n (pt P.ex e k)) ∧ Box wr G 4 cs' ∧ Below w.heap.size w wr ∧ Box wr w.heap.size 37 #[.slice Av P.nv cv, .slice Ax P.nx cx, .slice As P.ns cs, .slice Ap P.np cp, .slice Ab P.nb cb, .int .i64 P.fuel])
  case atStart => exact ⟨0, _, by omega, .inl ⟨e, by omega, rfl⟩, Lib.hid (by rw [pt_zero]; exact (BoolsC.falses n).put henn), hX.set _ _, hB2.setCell (p := ⟨G, e, none⟩) (by rw [HG.out]; exact Nat.le_succ _) _, hP2.far (Ne.symm hPG) _ _⟩
  case round =>
    rename World => w3
    obtain ⟨k, cs3, hk, hiv, hc, hbx, hbel, hP⟩ := hrel
    rcases hiv with ⟨i, hik, rfl⟩ | ⟨hke, rfl⟩
    · have hin : i < n := by omega
      have hii : (i : Int) < (n : Int) := by omega
      have hix : i < P.nx := by have := HN.out; omega
      have hixx : (i : Int) < (P.nx : Int) := by omega
      have hge : decide ((0 : Int) ≤ (i : Int)) = true := decide_eq_true (by omega)
      have hek : e - k = i := by omega
      obtain ⟨b, off, rfl, hb, r0, r1, r2, r3⟩ := (H.out.below hbel (Nat.le_refl _)).1.at_ hix
      have wi : IntKind.i64.wrap ((i : Int) - 1) = (i : Int) - 1 := IntWalk.i64_in _ (by omega)
      obtain ⟨q0, q1, q2, q3, q4, q5, qf⟩ := hP.six
      have hG2 : w.heap.size ≤ G := by rw [HG.out]; exact Nat.le_succ _
      cases hu : pt P.ex e k i with
      | false =>
        have HS : Hid (pt P.ex e k = pt P.ex e (k + 1)) := Lib.hid (by rw [pt, hek, stepU, if_neg (by rw [hu]; simp)])
        have hV := Box.new w3 133 #[.int .i64 (P.ex i 0), .int .i64 (P.ex i 1), .int .i64 (P.ex i 2), .int .i64 (P.ex i 3)]
        have hal := (Below.refl w3.heap.size w3).alloc (Nat.le_refl _) (.cells #[.int .i64 (P.ex i 0), .int .i64 (P.ex i 1), .int .i64 (P.ex i 2), .int .i64 (P.ex i 3)] 133)
        have v0 := hV.cell 0
        have v1 := hV.cell 1
        have v2 := hV.cell 2
        have v3 := hV.cell 3
        have hbx4 := hbx.alloc (.cells #[.int .i64 (P.ex i 0), .int .i64 (P.ex i 1), .int .i64 (P.ex i 2), .int .i64 (P.ex i 3)] 133)
        have hP4 := hP.alloc (.cells #[.int .i64 (P.ex i 0), .int .i64 (P.ex i 1), .int .i64 (P.ex i 2), .int .i64 (P.ex i 3)] 133)
        have hB4 := hbel.trans (hal.mono hbel.size)
        have k0 := hc.out.at_ hbx4 hin
        rw [hu] at k0
        clear hu hek
        go_wp2_with fail
        go_roundg (gk - 1)
        case rel =>
          refine ⟨k + 1, cs3, by omega, ?_, Lib.hid (HS.out ▸ hc.out), hbx4, hB4, hP4⟩
          by_cases hi0 : i = 0
          · exact .inr ⟨by omega, congrArg (Value.int .i64) (by rw [hi0]; rfl)⟩
          · exact .inl ⟨i - 1, by omega, congrArg (Value.int .i64) (by omega)⟩
        case measure => omega
      | true =>
        by_cases o12 : P.ex i 0 = 1 ∨ P.ex i 0 = 2
        · have HS : Hid (pt P.ex e k = pt P.ex e (k + 1)) := Lib.hid (by rw [pt, hek, stepU, if_neg (by rcases o12 with h | h <;> simp [h])])
          have hb12 : (P.ex i 0 == 1) = true ∨ ((P.ex i 0 == 1) = false ∧ (P.ex i 0 == 2) = true) := by
            rcases o12 with h | h
            · exact .inl (by rw [h]; rfl)
            · exact .inr ⟨by rw [h]; rfl, by rw [h]; rfl⟩
          have hV := Box.new w3 133 #[.int .i64 (P.ex i 0), .int .i64 (P.ex i 1), .int .i64 (P.ex i 2), .int .i64 (P.ex i 3)]
          have hal := (Below.refl w3.heap.size w3).alloc (Nat.le_refl _) (.cells #[.int .i64 (P.ex i 0), .int .i64 (P.ex i 1), .int .i64 (P.ex i 2), .int .i64 (P.ex i 3)] 133)
          have v0 := hV.cell 0
          have v1 := hV.cell 1
          have v2 := hV.cell 2
          have v3 := hV.cell 3
          have hbx4 := hbx.alloc (.cells #[.int .i64 (P.ex i 0), .int .i64 (P.ex i 1), .int .i64 (P.ex i 2), .int .i64 (P.ex i 3)] 133)
          have hP4 := hP.alloc (.cells #[.int .i64 (P.ex i 0), .int .i64 (P.ex i 1), .int .i64 (P.ex i 2), .int .i64 (P.ex i 3)] 133)
          have hB4 := hbel.trans (hal.mono hbel.size)
          have k0 := hc.out.at_ hbx4 hin
          rw [hu] at k0
          clear hu hek o12
          rcases hb12 with o1 | ⟨o1, o2⟩
          all_goals
            (go_wp2_with fail
             go_roundg (gk - 1)
             case rel =>
               refine ⟨k + 1, cs3, by omega, ?_, Lib.hid (HS.out ▸ hc.out), hbx4, hB4, hP4⟩
               by_cases hi0 : i = 0
               · exact .inr ⟨by omega, congrArg (Value.int .i64) (by rw [hi0]; rfl)⟩
               · exact .inl ⟨i - 1, by omega, congrArg (Value.int .i64) (by omega)⟩
             case measure => omega)
        · have n1 : P.ex i 0 ≠ 1 := fun h => o12 (.inl h)
          have n2 : P.ex i 0 ≠ 2 := fun h => o12 (.inr h)
          obtain ⟨⟨a0, a1⟩, hbb, hb10, _, _⟩ := ops_below HX.out hix n1 n2
          obtain ⟨a, ha⟩ : ∃ a : Nat, P.ex i 1 = (a : Int) := ⟨(P.ex i 1).toNat, by omega⟩
          have han : a < n := by omega
          have hai : (a : Int) < (n : Int) := by omega
          have o1 : (P.ex i 0 == 1) = false := beq_eq_false_iff_ne.2 n1
          have o2 : (P.ex i 0 == 2) = false := beq_eq_false_iff_ne.2 n2
          by_cases h10 : P.ex i 0 = 10
          · have HS : Hid (setU (pt P.ex e k) a = pt P.ex e (k + 1)) := Lib.hid (by rw [pt, hek, stepU, if_pos ⟨hu, n1, n2⟩, if_pos h10, ha, Int.toNat_natCast])
            have o10 : (P.ex i 0 != 10) = false := by rw [h10]; rfl
            rw [ha] at r1
            have hV := Box.new w3 133 #[.int .i64 (P.ex i 0), .int .i64 (a : Nat), .int .i64 (P.ex i 2), .int .i64 (P.ex i 3)]
            have hal := (Below.refl w3.heap.size w3).alloc (Nat.le_refl _) (.cells #[.int .i64 (P.ex i 0), .int .i64 (a : Nat), .int .i64 (P.ex i 2), .int .i64 (P.ex i 3)] 133)
            have v0 := hV.cell 0
            have v1 := hV.cell 1
            have v2 := hV.cell 2
            have v3 := hV.cell 3
            have hbx4 := hbx.alloc (.cells #[.int .i64 (P.ex i 0), .int .i64 (a : Nat), .int .i64 (P.ex i 2), .int .i64 (P.ex i 3)] 133)
            have hP4 := hP.alloc (.cells #[.int .i64 (P.ex i 0), .int .i64 (a : Nat), .int .i64 (P.ex i 2), .int .i64 (P.ex i 3)] 133)
            have hB4 := hbel.trans (hal.mono hbel.size)
            have k0 := hc.out.at_ hbx4 hin
            rw [hu] at k0
            have ka := hc.out.at_ hbx4 han
            have fa := hbx4.free a
            have hne : w3.heap.size ≠ G := Nat.ne_of_gt hbx.lt
            have u0 := (hV.far (Ne.symm hne) a (.bool true)).cell 0
            clear hu hek o12 n1 n2 hbb hb10 ha a0 a1 h10
            go_wp2_with fail
            go_roundg (gk - 1)
            case rel =>
              refine ⟨k + 1, _, by omega, ?_, Lib.hid (HS.out ▸ hc.out.put han), hbx4.set _ _, hB4.setCell (p := ⟨G, a, none⟩) hG2 _, hP4.far (Ne.symm hPG) _ _⟩
              by_cases hi0 : i = 0
              · exact .inr ⟨by omega, congrArg (Value.int .i64) (by rw [hi0]; rfl)⟩
              · exact .inl ⟨i - 1, by omega, congrArg (Value.int .i64) (by omega)⟩
            case measure => omega
          · obtain ⟨b0, b1⟩ := hbb h10
            obtain ⟨b2, hb2⟩ : ∃ b2 : Nat, P.ex i 2 = (b2 : Int) := ⟨(P.ex i 2).toNat, by omega⟩
            have hbn : b2 < n := by omega
            have hbi : (b2 : Int) < (n : Int) := by omega
            have HS : Hid (setU (setU (pt P.ex e k) a) b2 = pt P.ex e (k + 1)) := Lib.hid (by rw [pt, hek, stepU, if_pos ⟨hu, n1, n2⟩, if_neg h10, ha, hb2, Int.toNat_natCast, Int.toNat_natCast])
            have o10 : (P.ex i 0 != 10) = true := by simp [h10]
            rw [ha] at r1
            rw [hb2] at r2
            have hV := Box.new w3 133 #[.int .i64 (P.ex i 0), .int .i64 (a : Nat), .int .i64 (b2 : Nat), .int .i64 (P.ex i 3)]
            have hal := (Below.refl w3.heap.size w3).alloc (Nat.le_refl _) (.cells #[.int .i64 (P.ex i 0), .int .i64 (a : Nat), .int .i64 (b2 : Nat), .int .i64 (P.ex i 3)] 133)
            have v0 := hV.cell 0
            have v1 := hV.cell 1
            have v2 := hV.cell 2
            have v3 := hV.cell 3
            have hbx4 := hbx.alloc (.cells #[.int .i64 (P.ex i 0), .int .i64 (a : Nat), .int .i64 (b2 : Nat), .int .i64 (P.ex i 3)] 133)
            have hP4 := hP.alloc (.cells #[.int .i64 (P.ex i 0), .int .i64 (a : Nat), .int .i64 (b2 : Nat), .int .i64 (P.ex i 3)] 133)
            have hB4 := hbel.trans (hal.mono hbel.size)
            have k0 := hc.out.at_ hbx4 hin
            rw [hu] at k0
            have ka := hc.out.at_ hbx4 han
            have fa := hbx4.free a
            have hbx5 := hbx4.set a (.bool true)
            have kb := (hc.out.put han).at_ hbx5 hbn
            have fb := hbx5.free b2
            have hne : w3.heap.size ≠ G := Nat.ne_of_gt hbx.lt
            have hV5 := hV.far (Ne.symm hne) a (.bool true)
            have u0 := hV5.cell 0
            have u2 := hV5.cell 2
            clear hu hek o12 n1 n2 hbb hb10 ha a0 a1 h10 b0 b1 hb2
            go_wp2_with fail
            go_roundg (gk - 1)
            case rel =>
              refine ⟨k + 1, _, by omega, ?_, Lib.hid (HS.out ▸ (hc.out.put han).put hbn), hbx5.set _ _, (hB4.setCell (p := ⟨G, a, none⟩) hG2 _).setCell (p := ⟨G, b2, none⟩) hG2 _, (hP4.far (Ne.symm hPG) _ _).far (Ne.symm hPG) _ _⟩
              by_cases hi0 : i = 0
              · exact .inr ⟨by omega, congrArg (Value.int .i64) (by rw [hi0]; rfl)⟩
              · exact .inl ⟨i - 1, by omega, congrArg (Value.int .i64) (by omega)⟩
            case measure => omega
    · have hkn : k = n := by have := HN.out; omega
      go_wp2_with fail
      go_ret
      refine ⟨G, cs3, by rw [HN.out]; rfl, hbx, ?_, hbel, by rw [HG.out]; exact Nat.le_succ _⟩
      have := hc.out
      rw [hke, HN.out] at this
      exact this

end Go.Proofs.Ytcdgbjklfmlhkaa
