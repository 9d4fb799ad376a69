/-
  Programs: the law's copies of procedures, statements and whole programs.
-/
import Derived.Test.YtoaiejodbmkbjaaGreatDoorPgTo
namespace Go.Proofs.YtoaiejodbmkbjaaGreatDoor
open Go.RowKit Num

theorem Box.far {w : World} {G H : Nat} {t : TypeId} {cs : Array Value} (h : Box w G t cs) (hne : H ≠ G) (i : Nat) (v : Value) : Box (w.setCell ⟨H, i, none⟩ v) G t cs := by
  unfold Box at h ⊢
  simp [World.setCell, Array.getElem?_modify, hne, h]

theorem Box.eight {w : World} {g : Nat} {t : TypeId} {a b c d e f i j : Value} (h : Box w g t #[a, b, c, d, e, f, i, j]) : w.cell? ⟨g, 0, none⟩ = some a ∧ w.cell? ⟨g, 1, none⟩ = some b ∧ w.cell? ⟨g, 2, none⟩ = some c ∧ w.cell? ⟨g, 3, none⟩ = some d ∧
    w.cell? ⟨g, 4, none⟩ = some e ∧ w.cell? ⟨g, 5, none⟩ = some f ∧ w.cell? ⟨g, 6, none⟩ = some i ∧ w.cell? ⟨g, 7, none⟩ = some j ∧ (∀ k, w.frozen? ⟨g, k, none⟩ = false) :=
  ⟨h.cell 0, h.cell 1, h.cell 2, h.cell 3, h.cell 4, h.cell 5, h.cell 6, h.cell 7, fun k => h.free k⟩

theorem Box.six {w : World} {g : Nat} {t : TypeId} {a b c d e f : Value} (h : Box w g t #[a, b, c, d, e, f]) : w.cell? ⟨g, 0, none⟩ = some a ∧ w.cell? ⟨g, 1, none⟩ = some b ∧ w.cell? ⟨g, 2, none⟩ = some c ∧ w.cell? ⟨g, 3, none⟩ = some d ∧
    w.cell? ⟨g, 4, none⟩ = some e ∧ w.cell? ⟨g, 5, none⟩ = some f ∧ (∀ k, w.frozen? ⟨g, k, none⟩ = false) :=
  ⟨h.cell 0, h.cell 1, h.cell 2, h.cell 3, h.cell 4, h.cell 5, fun k => h.free k⟩

set_option maxRecDepth 100000 in
theorem toProc_any (lo : Nat) (s : ByteArray) (A1 : Option Addr) (m c1 : Nat) (f : Nat → Int) (w : World) (hm : m ≤ 1048576) (h : IntsAt lo w A1 m f) :
    Calls Tryz.prog 46 #[.agg #[.string s, .slice A1 m c1]] w fun e w' => (∃ g, e = .returned (.agg #[.string s, .slice (some ⟨g, 0, none⟩) m m]) ∧ IntsAt w.heap.size w' (some ⟨g, 0, none⟩) m f) ∧ Below w.heap.size w w' := by
  have hbox := Box.new w 73 #[.string s, .slice A1 m c1]
  have q0 := hbox.cell 0
  have q1 := hbox.cell 1
  have C : Hid (∀ W, Below w.heap.size w W → _) := Lib.hid fun W hW => toIntS_any lo A1 m c1 f W hm (h.below hW (Nat.le_refl _))
  have hB : Below w.heap.size w (((w.alloc (.cells #[.string s, .slice A1 m c1] 73)).alloc (.cells #[.string ⟨#[]⟩, .slice none 0 0] 89)).alloc (.cells #[.string s, .slice none 0 0] 89)) := (((Below.refl _ w).alloc (Nat.le_refl _) _).alloc (by simp) _).alloc (by simp; omega) _
  have hR := (Box.new (w.alloc (.cells #[.string s, .slice A1 m c1] 73)) 89 #[.string ⟨#[]⟩, .slice none 0 0]).alloc (.cells #[.string s, .slice none 0 0] 89)
  have hO := Box.new ((w.alloc (.cells #[.string s, .slice A1 m c1] 73)).alloc (.cells #[.string ⟨#[]⟩, .slice none 0 0] 89)) 89 #[.string s, .slice none 0 0]
  rw [show (w.alloc (.cells #[.string s, .slice A1 m c1] 73)).heap.size = w.heap.size + 1 by simp] at hR
  rw [show ((w.alloc (.cells #[.string s, .slice A1 m c1] 73)).alloc (.cells #[.string ⟨#[]⟩, .slice none 0 0] 89)).heap.size = w.heap.size + 1 + 1 by simp] at hO
  clear h
  go_enter Tryz.func46, Tryz.ntmps46
  go_wp2_with (go_at_call 22; refine (C.out _ hB).mono ?_; rintro e w4 ⟨⟨g, rfl, hg⟩, hb4⟩; replace hO := hO.below hb4 hO.lt; replace hR := hR.below hb4 hR.lt; obtain ⟨o0, o1, fo0, fo1⟩ := hO.two; obtain ⟨z0, z1, fz0, fz1⟩ := hR.two; replace hB := hB.trans (hb4.mono hB.size))
  replace hg := hg.low (show w.heap.size + 1 + 1 + 1 ≤ _ by simp)
  have hR1 := hR.far (show w.heap.size + 1 + 1 ≠ w.heap.size + 1 by omega) 1 (.slice (some ⟨g, 0, none⟩) m m)
  have hR2 := (hR1.set 0 (.string s)).set 1 (.slice (some ⟨g, 0, none⟩) m m)
  have k0 := hR2.cell 0
  have k1 := hR2.cell 1
  refine bodyPost_ret (v := .agg #[.string s, .slice (some ⟨g, 0, none⟩) m m]) (by simp [results, Tryz.results46, go_sem, k0, k1]; done) rfl ⟨⟨g, rfl, ?_⟩, ?_⟩
  · exact (((hg.keep (.set _ (by omega) _ _)).keep (.set _ (by omega) _ _)).keep (.set _ (by omega) _ _)).low (by omega)
  · exact ((hB.setCell (p := ⟨_, 1, none⟩) (by show w.heap.size ≤ w.heap.size + 1 + 1; omega) _).setCell (p := ⟨_, 0, none⟩) (by show w.heap.size ≤ w.heap.size + 1; omega) _).setCell (p := ⟨_, 1, none⟩) (by show w.heap.size ≤ w.heap.size + 1; omega) _

set_option maxRecDepth 100000 in
set_option maxHeartbeats 3200000 in
theorem toStmt_any (lo : Nat) (s : Stm) (A3 A4 A5 : Option Addr) (c3 c4 c5 : Nat) (w : World) (hs : s.small) (h3 : ChAt lo w A3 s.nc s.ch) (h4 : IntsAt lo w A4 s.nt s.th) (h5 : IntsAt lo w A5 s.ne s.el) :
    Calls Tryz.prog 45 #[.agg #[.int .i64 s.kind, .int .i64 s.var, .int .i64 s.ex, .slice A3 s.nc c3, .slice A4 s.nt c4, .slice A5 s.ne c5, .int .i64 s.times, .int .i64 s.proc]] w fun e w' =>
      (∃ g3 g4 g5, e = .returned (.agg #[.int .i64 s.kind, .int .i64 s.var, .int .i64 s.ex, .slice (some ⟨g3, 0, none⟩) s.nc s.nc, .slice (some ⟨g4, 0, none⟩) s.nt s.nt, .slice (some ⟨g5, 0, none⟩) s.ne s.ne, .int .i64 s.times, .int .i64 s.proc]) ∧ ChAt w.heap.size w' (some ⟨g3, 0, none⟩) s.nc s.ch ∧ IntsAt w.heap.size w' (some ⟨g4, 0, none⟩) s.nt s.th ∧ IntsAt w.heap.size w' (some ⟨g5, 0, none⟩) s.ne s.el) ∧ Below w.heap.size w w' := by
  have hP := Box.new w 70 #[.int .i64 s.kind, .int .i64 s.var, .int .i64 s.ex, .slice A3 s.nc c3, .slice A4 s.nt c4, .slice A5 s.ne c5, .int .i64 s.times, .int .i64 s.proc]
  obtain ⟨q0, q1, q2, q3, q4, q5, q6, q7, qf⟩ := hP.eight
  have C3 : Hid (∀ W, Below w.heap.size w W → _) := Lib.hid fun W hW => toChoiceS_any lo A3 s.nc c3 s.ch W hs.nc (h3.below hW (Nat.le_refl _)) trivial
  have C4 : Hid (∀ W, Below w.heap.size w W → _) := Lib.hid fun W hW => toIntS_any lo A4 s.nt c4 s.th W hs.nt (h4.below hW (Nat.le_refl _))
  have C5 : Hid (∀ W, Below w.heap.size w W → _) := Lib.hid fun W hW => toIntS_any lo A5 s.ne c5 s.el W hs.ne (h5.below hW (Nat.le_refl _))
  have hB : Below w.heap.size w (((w.alloc (.cells #[.int .i64 s.kind, .int .i64 s.var, .int .i64 s.ex, .slice A3 s.nc c3, .slice A4 s.nt c4, .slice A5 s.ne c5, .int .i64 s.times, .int .i64 s.proc] 70)).alloc (.cells #[.int .i64 0, .int .i64 0, .int .i64 0, .slice none 0 0, .slice none 0 0, .slice none 0 0, .int .i64 0, .int .i64 0] 77)).alloc (.cells #[.int .i64 s.kind, .int .i64 s.var, .int .i64 s.ex, .slice none 0 0, .slice none 0 0, .slice none 0 0, .int .i64 0, .int .i64 0] 77)) := (((Below.refl _ w).alloc (Nat.le_refl _) _).alloc (by simp) _).alloc (by simp; omega) _
  have hR := (Box.new (w.alloc (.cells #[.int .i64 s.kind, .int .i64 s.var, .int .i64 s.ex, .slice A3 s.nc c3, .slice A4 s.nt c4, .slice A5 s.ne c5, .int .i64 s.times, .int .i64 s.proc] 70)) 77 #[.int .i64 0, .int .i64 0, .int .i64 0, .slice none 0 0, .slice none 0 0, .slice none 0 0, .int .i64 0, .int .i64 0]).alloc (.cells #[.int .i64 s.kind, .int .i64 s.var, .int .i64 s.ex, .slice none 0 0, .slice none 0 0, .slice none 0 0, .int .i64 0, .int .i64 0] 77)
  have hO := Box.new ((w.alloc (.cells #[.int .i64 s.kind, .int .i64 s.var, .int .i64 s.ex, .slice A3 s.nc c3, .slice A4 s.nt c4, .slice A5 s.ne c5, .int .i64 s.times, .int .i64 s.proc] 70)).alloc (.cells #[.int .i64 0, .int .i64 0, .int .i64 0, .slice none 0 0, .slice none 0 0, .slice none 0 0, .int .i64 0, .int .i64 0] 77)) 77 #[.int .i64 s.kind, .int .i64 s.var, .int .i64 s.ex, .slice none 0 0, .slice none 0 0, .slice none 0 0, .int .i64 0, .int .i64 0]
  rw [show (w.alloc (.cells #[.int .i64 s.kind, .int .i64 s.var, .int .i64 s.ex, .slice A3 s.nc c3, .slice A4 s.nt c4, .slice A5 s.ne c5, .int .i64 s.times, .int .i64 s.proc] 70)).heap.size = w.heap.size + 1 by simp] at hR
  rw [show ((w.alloc (.cells #[.int .i64 s.kind, .int .i64 s.var, .int .i64 s.ex, .slice A3 s.nc c3, .slice A4 s.nt c4, .slice A5 s.ne c5, .int .i64 s.times, .int .i64 s.proc] 70)).alloc (.cells #[.int .i64 0, .int .i64 0, .int .i64 0, .slice none 0 0, .slice none 0 0, .slice none 0 0, .int .i64 0, .int .i64 0] 77)).heap.size = w.heap.size + 1 + 1 by simp] at hO
  replace hP := (hP.alloc (.cells #[.int .i64 0, .int .i64 0, .int .i64 0, .slice none 0 0, .slice none 0 0, .slice none 0 0, .int .i64 0, .int .i64 0] 77)).alloc (.cells #[.int .i64 s.kind, .int .i64 s.var, .int .i64 s.ex, .slice none 0 0, .slice none 0 0, .slice none 0 0, .int .i64 0, .int .i64 0] 77)
  clear h3 h4 h5 hs
  go_enter Tryz.func45, Tryz.ntmps45
  go_wp2_with (first
    | (go_at_call 64
       refine (C3.out _ hB).mono ?_
       rintro e w3 ⟨⟨g3, rfl, hg⟩, hb⟩
       have hM3 := hg.low (show w.heap.size + 1 + 1 + 1 ≤ _ by simp)
       clear hg q0 q1 q2 q3 q4 q5 q6 q7 qf
       have hP3 := hP.below hb hP.lt
       have hO3 := hO.below hb hO.lt
       have hR3 := hR.below hb hR.lt
       have hB3 := hB.trans (hb.mono hB.size)
       clear hP hO hR hB hb
       obtain ⟨q0, q1, q2, q3, q4, q5, q6, q7, qf⟩ := hP3.eight
       obtain ⟨o0, o1, o2, o3, o4, o5, o6, o7, fo⟩ := hO3.eight)
    | (go_at_call 22
       refine (C4.out _ (hB3.setCell (p := ⟨_, 3, none⟩) (by show w.heap.size ≤ w.heap.size + 1 + 1; omega) _)).mono ?_
       rintro e w4 ⟨⟨g4, rfl, hg⟩, hb⟩
       clear q0 q1 q2 q3 q4 q5 q6 q7 qf o0 o1 o2 o3 o4 o5 o6 o7 fo
       have hB4 := (hB3.setCell (p := ⟨_, 3, none⟩) (by show w.heap.size ≤ w.heap.size + 1 + 1; omega) _).trans (hb.mono (hB3.setCell (p := ⟨_, 3, none⟩) (by show w.heap.size ≤ w.heap.size + 1 + 1; omega) _).size)
       have hO4 : Box w4 (w.heap.size + 1 + 1) 77 #[.int .i64 s.kind, .int .i64 s.var, .int .i64 s.ex, .slice (some ⟨g3, 0, none⟩) s.nc s.nc, .slice none 0 0, .slice none 0 0, .int .i64 0, .int .i64 0] := (hO3.set 3 _).below hb (hO3.set 3 _).lt
       have hP4 : Box w4 w.heap.size 70 #[.int .i64 s.kind, .int .i64 s.var, .int .i64 s.ex, .slice A3 s.nc c3, .slice A4 s.nt c4, .slice A5 s.ne c5, .int .i64 s.times, .int .i64 s.proc] := (hP3.far (by omega) 3 _).below hb (hP3.far (by omega) 3 _).lt
       have hR4 : Box w4 (w.heap.size + 1) 77 #[.int .i64 0, .int .i64 0, .int .i64 0, .slice none 0 0, .slice none 0 0, .slice none 0 0, .int .i64 0, .int .i64 0] := (hR3.far (by omega) 3 _).below hb (hR3.far (by omega) 3 _).lt
       have hM4 := hg.low (show w.heap.size + 1 + 1 + 1 ≤ _ by have := hO3.lt; simp [World.setCell]; omega)
       replace hM3 := (hM3.keep (.set _ (by omega) 3 _)).below hb (Nat.le_refl _)
       clear hg hO3 hP3 hR3 hB3 hb
       obtain ⟨q0, q1, q2, q3, q4, q5, q6, q7, qf⟩ := hP4.eight
       obtain ⟨o0, o1, o2, o3, o4, o5, o6, o7, fo⟩ := hO4.eight)
    | (go_at_call 22
       refine (C5.out _ (hB4.setCell (p := ⟨_, 4, none⟩) (by show w.heap.size ≤ w.heap.size + 1 + 1; omega) _)).mono ?_
       rintro e w5 ⟨⟨g5, rfl, hg⟩, hb⟩
       clear q0 q1 q2 q3 q4 q5 q6 q7 qf o0 o1 o2 o3 o4 o5 o6 o7 fo
       have hB5 := (hB4.setCell (p := ⟨_, 4, none⟩) (by show w.heap.size ≤ w.heap.size + 1 + 1; omega) _).trans (hb.mono (hB4.setCell (p := ⟨_, 4, none⟩) (by show w.heap.size ≤ w.heap.size + 1 + 1; omega) _).size)
       have hO5 : Box w5 (w.heap.size + 1 + 1) 77 #[.int .i64 s.kind, .int .i64 s.var, .int .i64 s.ex, .slice (some ⟨g3, 0, none⟩) s.nc s.nc, .slice (some ⟨g4, 0, none⟩) s.nt s.nt, .slice none 0 0, .int .i64 0, .int .i64 0] := (hO4.set 4 _).below hb (hO4.set 4 _).lt
       have hP5 : Box w5 w.heap.size 70 #[.int .i64 s.kind, .int .i64 s.var, .int .i64 s.ex, .slice A3 s.nc c3, .slice A4 s.nt c4, .slice A5 s.ne c5, .int .i64 s.times, .int .i64 s.proc] := (hP4.far (by omega) 4 _).below hb (hP4.far (by omega) 4 _).lt
       have hR5 : Box w5 (w.heap.size + 1) 77 #[.int .i64 0, .int .i64 0, .int .i64 0, .slice none 0 0, .slice none 0 0, .slice none 0 0, .int .i64 0, .int .i64 0] := (hR4.far (by omega) 4 _).below hb (hR4.far (by omega) 4 _).lt
       have hM5 := hg.low (show w.heap.size + 1 + 1 + 1 ≤ _ by have := hO4.lt; simp [World.setCell]; omega)
       replace hM3 := (hM3.keep (.set _ (by omega) 4 _)).below hb (Nat.le_refl _)
       replace hM4 := (hM4.keep (.set _ (by omega) 4 _)).below hb (Nat.le_refl _)
       clear hg hO4 hP4 hR4 hB4 hb
       obtain ⟨q0, q1, q2, q3, q4, q5, q6, q7, qf⟩ := hP5.eight
       obtain ⟨o0, o1, o2, o3, o4, o5, o6, o7, fo⟩ := hO5.eight
       obtain ⟨z0, z1, z2, z3, z4, z5, z6, z7, fz⟩ := hR5.eight))
  have hF := (((((((((((hR5.far (show w.heap.size + 1 + 1 ≠ w.heap.size + 1 by omega) 5 (.slice (some ⟨g5, 0, none⟩) s.ne s.ne)).far (show w.heap.size + 1 + 1 ≠ w.heap.size + 1 by omega) 6 (.int .i64 s.times)).far (show w.heap.size + 1 + 1 ≠ w.heap.size + 1 by omega) 7 (.int .i64 s.proc)).set 0 (.int .i64 s.kind)).set 1 (.int .i64 s.var)).set 2 (.int .i64 s.ex)).set 3 (.slice (some ⟨g3, 0, none⟩) s.nc s.nc)).set 4 (.slice (some ⟨g4, 0, none⟩) s.nt s.nt)).set 5 (.slice (some ⟨g5, 0, none⟩) s.ne s.ne)).set 6 (.int .i64 s.times)).set 7 (.int .i64 s.proc))
  have k0 := hF.cell 0
  have k1 := hF.cell 1
  have k2 := hF.cell 2
  have k3 := hF.cell 3
  have k4 := hF.cell 4
  have k5 := hF.cell 5
  have k6 := hF.cell 6
  have k7 := hF.cell 7
  exact bodyPost_ret (v := .agg #[.int .i64 s.kind, .int .i64 s.var, .int .i64 s.ex, .slice (some ⟨g3, 0, none⟩) s.nc s.nc, .slice (some ⟨g4, 0, none⟩) s.nt s.nt, .slice (some ⟨g5, 0, none⟩) s.ne s.ne, .int .i64 s.times, .int .i64 s.proc]) (by simp [results, Tryz.results45, go_sem, k0, k1, k2, k3, k4, k5, k6, k7]; done) rfl ⟨⟨g3, g4, g5, rfl, (((((((((((hM3.keep (.set _ (by omega) 5 _)).keep (.set _ (by omega) 6 _)).keep (.set _ (by omega) 7 _)).keep (.set _ (by omega) 0 _)).keep (.set _ (by omega) 1 _)).keep (.set _ (by omega) 2 _)).keep (.set _ (by omega) 3 _)).keep (.set _ (by omega) 4 _)).keep (.set _ (by omega) 5 _)).keep (.set _ (by omega) 6 _)).keep (.set _ (by omega) 7 _)).low (by omega), (((((((((((hM4.keep (.set _ (by omega) 5 _)).keep (.set _ (by omega) 6 _)).keep (.set _ (by omega) 7 _)).keep (.set _ (by omega) 0 _)).keep (.set _ (by omega) 1 _)).keep (.set _ (by omega) 2 _)).keep (.set _ (by omega) 3 _)).keep (.set _ (by omega) 4 _)).keep (.set _ (by omega) 5 _)).keep (.set _ (by omega) 6 _)).keep (.set _ (by omega) 7 _)).low (by omega), (((((((((((hM5.keep (.set _ (by omega) 5 _)).keep (.set _ (by omega) 6 _)).keep (.set _ (by omega) 7 _)).keep (.set _ (by omega) 0 _)).keep (.set _ (by omega) 1 _)).keep (.set _ (by omega) 2 _)).keep (.set _ (by omega) 3 _)).keep (.set _ (by omega) 4 _)).keep (.set _ (by omega) 5 _)).keep (.set _ (by omega) 6 _)).keep (.set _ (by omega) 7 _)).low (by omega)⟩, (((((((((((hB5.setCell (p := ⟨_, 5, none⟩) (by show w.heap.size ≤ w.heap.size + 1 + 1; omega) _).setCell (p := ⟨_, 6, none⟩) (by show w.heap.size ≤ w.heap.size + 1 + 1; omega) _).setCell (p := ⟨_, 7, none⟩) (by show w.heap.size ≤ w.heap.size + 1 + 1; omega) _).setCell (p := ⟨_, 0, none⟩) (by show w.heap.size ≤ w.heap.size + 1; omega) _).setCell (p := ⟨_, 1, none⟩) (by show w.heap.size ≤ w.heap.size + 1; omega) _).setCell (p := ⟨_, 2, none⟩) (by show w.heap.size ≤ w.heap.size + 1; omega) _).setCell (p := ⟨_, 3, none⟩) (by show w.heap.size ≤ w.heap.size + 1; omega) _).setCell (p := ⟨_, 4, none⟩) (by show w.heap.size ≤ w.heap.size + 1; omega) _).setCell (p := ⟨_, 5, none⟩) (by show w.heap.size ≤ w.heap.size + 1; omega) _).setCell (p := ⟨_, 6, none⟩) (by show w.heap.size ≤ w.heap.size + 1; omega) _).setCell (p := ⟨_, 7, none⟩) (by show w.heap.size ≤ w.heap.size + 1; omega) _)⟩

theorem PrR.low {lo lo' : Nat} {pn : Nat → ByteArray} {pl : Nat → Nat} {pb : Nat → Nat → Int} {w : World} {j : Nat} {C : Nat → Value} (h : PrR lo pn pl pb w j C) (hl : lo' ≤ lo) : PrR lo' pn pl pb w j C := by
  obtain ⟨h0, A, c, h1, h2⟩ := h
  exact ⟨h0, A, c, h1, h2.low hl⟩

theorem Tryz.infoProc : (Tryz.prog.info? 89).map (fun i => (i.zero, i.size, i.bytes)) = some (some (.agg #[.string ⟨#[]⟩, .slice none 0 0]), 2, 40) := by kernel_rfl

theorem mk_Proc (n : Nat) (hn : n ≤ 1048576) (w : World) :
    (Instr.makeSlice 35 (.int .i64 (n : Int)) (.int .i64 (n : Int))).run Tryz.prog w = .ok (.slice (some ⟨w.heap.size, 0, none⟩) n n) (w.alloc (.cells (madeCells #[.string ⟨#[]⟩, .slice none 0 0] (n * 2)) 89)) := by
  obtain ⟨i, hi, hzz⟩ := Option.map_eq_some_iff.1 Tryz.infoProc
  simp only [Prod.mk.injEq] at hzz
  obtain ⟨hz, hs, hb⟩ := hzz
  have hr := run_make (P := Tryz.prog) w 35 89 i _ Tryz.underlying35 hi hz .i64 .i64 n n (by omega) (Int.le_refl _) (by rw [hb]; omega) (by omega)
  simp only [Int.toNat_natCast, hs, Value.cells] at hr
  exact hr

set_option maxRecDepth 100000 in
set_option maxHeartbeats 3200000 in
theorem toProcS_any (lo : Nat) (A0 : Option Addr) (n cap : Nat) (pn : Nat → ByteArray) (pl : Nat → Nat) (pb : Nat → Nat → Int) (w : World) (hn : n ≤ 1048576) (hA : PrAt lo w A0 n pn pl pb) (hs : ∀ j, j < n → pl j ≤ 1048576) :
    Calls Tryz.prog 21 #[.slice A0 n cap] w fun e w' => (∃ g, e = .returned (.slice (some ⟨g, 0, none⟩) n n) ∧ PrAt w.heap.size w' (some ⟨g, 0, none⟩) n pn pl pb) ∧ Below w.heap.size w w' := by
  have hmk := mk_Proc n hn
  have HA := Lib.hid hA; clear hA
  have HS := Lib.hid hs; clear hs
  go_enter Tryz.func21, Tryz.ntmps21
  go_wp2_with fail
  clear hmk
  obtain ⟨G, hG⟩ : ∃ G, G = w.heap.size := ⟨_, rfl⟩
  rw [← hG]
  have HG := Lib.hid hG; clear hG
  go_loopw [4] (fun i wr => ∃ (k : Nat) (cs : Array Value), (k ≤ n ∧ cs.size = n * 2 ∧ ∀ j, j < k → ∃ C : Nat → Value, PrR (G + 1) pn pl pb wr j C ∧ ∀ c, c < 2 → cs[j * 2 + c]? = some (C c)) ∧ Box wr G 89 cs ∧ Below w.heap.size w wr ∧ i = .int .i64 (k : Int)) (fun i _ => ((n : Int) - intOf i).toNat)
  case atStart =>
    refine ⟨0, madeCells #[.string ⟨#[]⟩, .slice none 0 0] (n * 2), ⟨by omega, size_madeCells _ _, fun j h => by omega⟩, ?_, ?_, rfl⟩
    · rw [HG.out]; exact Box.new w _ _
    · exact (Below.refl _ w).alloc (Nat.le_refl _) _
  case round =>
    obtain ⟨k, cs, hk', hbx, hB, rfl⟩ := hrel
    obtain ⟨hk, hcs, hfill⟩ := hk'
    have Hfill := Lib.hid hfill; clear hfill
    have HB := Lib.hid hB; clear hB
    by_cases hk0 : k < n
    · have hAw : PrAt lo wr A0 n pn pl pb := HA.out.below HB.out (Nat.le_refl _)
      obtain ⟨b, off, A1, c1, rfl, hb, r0, r1, g1⟩ := hAw.at_ hk0
      have C := Lib.hid (toProc_any lo (pn k) A1 (pl k) c1 (pb k) wr (HS.out k hk0) g1)
      clear g1
      have Hb := Lib.hid hb; clear hb hAw
      have hGr : G + 1 ≤ wr.heap.size := hbx.lt
      go_wp2_with (go_at_call 46; refine C.out.mono ?_; rintro e w1 ⟨⟨g, rfl, hg⟩, hb1⟩; replace hbx := hbx.below hb1 hbx.lt; have Hb1 := Lib.hid hb1; replace HB := Lib.hid (HB.out.trans (hb1.mono HB.out.size)); clear hb1; obtain ⟨k0, k1, f0, f1⟩ := two_at hbx (k * 2) (by omega))
      have hK : Keeps (G + 1) wr ((w1.setCell ⟨G, k * 2, none⟩ (.string (pn k))).setCell ⟨G, k * 2 + 1, none⟩ (.slice (some ⟨g, 0, none⟩) (pl k) (pl k))) := (((Keeps.of_below Hb1.out (Nat.le_refl _)).trans (.set _ (Nat.lt_succ_self G) _ _)).trans (.set _ (Nat.lt_succ_self G) _ _))
      refine ⟨⟨k + 1, _, ⟨by omega, ?_, ?_⟩, (hbx.set _ _).set _ _, ?_, by simp⟩, by simp [intOf]; omega⟩
      · simp [hcs]
      · exact fill2 (Q := fun j C => PrR (G + 1) pn pl pb ((w1.setCell ⟨G, k * 2, none⟩ (.string (pn k))).setCell ⟨G, k * 2 + 1, none⟩ (.slice (some ⟨g, 0, none⟩) (pl k) (pl k))) j C) hcs hk0 (fun j hj => by
          obtain ⟨C, hC, hc⟩ := Hfill.out j hj
          exact ⟨C, PrR.stays _ pn pl pb _ _ _ _ hC hK, hc⟩) _ _ (fun c => match c with | 0 => .string (pn k) | _ => .slice (some ⟨g, 0, none⟩) (pl k) (pl k)) ⟨rfl, _, _, rfl, ((hg.low hGr).keep (.set _ (Nat.lt_succ_self G) _ _)).keep (.set _ (Nat.lt_succ_self G) _ _)⟩ rfl rfl
      · have hG2 : w.heap.size ≤ G := by rw [HG.out]; exact Nat.le_refl _
        exact ((HB.out.setCell (p := ⟨G, k * 2, none⟩) hG2 _).setCell (p := ⟨G, k * 2 + 1, none⟩) hG2 _)
    · obtain rfl : k = n := by omega
      go_wp2_with fail
      go_ret
      refine ⟨⟨G, rfl, ?_⟩, HB.out⟩
      rw [← HG.out]
      exact Arr.low (fun j C h => PrR.low h (by omega)) (Arr.of_box (Nat.le_refl G) hbx Hfill.out) (Nat.le_refl G)

theorem StR.low {lo lo' : Nat} {st : Nat → Stm} {w : World} {j : Nat} {C : Nat → Value} (h : StR lo st w j C) (hl : lo' ≤ lo) : StR lo' st w j C := by
  obtain ⟨h0, h1, h2, ⟨A3, c3, h3, g3⟩, ⟨A4, c4, h4, g4⟩, ⟨A5, c5, h5, g5⟩, h6, h7⟩ := h
  exact ⟨h0, h1, h2, ⟨A3, c3, h3, g3.low hl⟩, ⟨A4, c4, h4, g4.low hl⟩, ⟨A5, c5, h5, g5.low hl⟩, h6, h7⟩

theorem Tryz.infoStmt : (Tryz.prog.info? 77).map (fun i => (i.zero, i.size, i.bytes)) = some (some (.agg #[.int .i64 0, .int .i64 0, .int .i64 0, .slice none 0 0, .slice none 0 0, .slice none 0 0, .int .i64 0, .int .i64 0]), 8, 112) := by kernel_rfl

theorem mk_Stmt (n : Nat) (hn : n ≤ 1048576) (w : World) :
    (Instr.makeSlice 34 (.int .i64 (n : Int)) (.int .i64 (n : Int))).run Tryz.prog w = .ok (.slice (some ⟨w.heap.size, 0, none⟩) n n) (w.alloc (.cells (madeCells #[.int .i64 0, .int .i64 0, .int .i64 0, .slice none 0 0, .slice none 0 0, .slice none 0 0, .int .i64 0, .int .i64 0] (n * 8)) 77)) := by
  obtain ⟨i, hi, hzz⟩ := Option.map_eq_some_iff.1 Tryz.infoStmt
  simp only [Prod.mk.injEq] at hzz
  obtain ⟨hz, hs, hb⟩ := hzz
  have hr := run_make (P := Tryz.prog) w 34 77 i _ Tryz.underlying34 hi hz .i64 .i64 n n (by omega) (Int.le_refl _) (by rw [hb]; omega) (by omega)
  simp only [Int.toNat_natCast, hs, Value.cells] at hr
  exact hr

set_option maxRecDepth 100000 in
set_option maxHeartbeats 3200000 in
theorem toStmtS_any (lo : Nat) (A0 : Option Addr) (n cap : Nat) (st : Nat → Stm) (w : World) (hn : n ≤ 1048576) (hA : StAt lo w A0 n st) (hs : ∀ j, j < n → (st j).small) :
    Calls Tryz.prog 20 #[.slice A0 n cap] w fun e w' => (∃ g, e = .returned (.slice (some ⟨g, 0, none⟩) n n) ∧ StAt w.heap.size w' (some ⟨g, 0, none⟩) n st) ∧ Below w.heap.size w w' := by
  have hmk := mk_Stmt n hn
  have HA := Lib.hid hA; clear hA
  have HS := Lib.hid hs; clear hs
  go_enter Tryz.func20, Tryz.ntmps20
  go_wp2_with fail
  clear hmk
  obtain ⟨G, hG⟩ : ∃ G, G = w.heap.size := ⟨_, rfl⟩
  rw [← hG]
  have HG := Lib.hid hG; clear hG
  go_loopw [4] (fun i wr => ∃ (k : Nat) (cs : Array Value), (k ≤ n ∧ cs.size = n * 8 ∧ ∀ j, j < k → ∃ C : Nat → Value, StR (G + 1) st wr j C ∧ ∀ c, c < 8 → cs[j * 8 + c]? = some (C c)) ∧ Box wr G 77 cs ∧ Below w.heap.size w wr ∧ i = .int .i64 (k : Int)) (fun i _ => ((n : Int) - intOf i).toNat)
  case atStart =>
    refine ⟨0, madeCells #[.int .i64 0, .int .i64 0, .int .i64 0, .slice none 0 0, .slice none 0 0, .slice none 0 0, .int .i64 0, .int .i64 0] (n * 8), ⟨by omega, size_madeCells _ _, fun j h => by omega⟩, ?_, ?_, rfl⟩
    · rw [HG.out]; exact Box.new w _ _
    · exact (Below.refl _ w).alloc (Nat.le_refl _) _
  case round =>
    obtain ⟨k, cs, hk', hbx, hB, rfl⟩ := hrel
    obtain ⟨hk, hcs, hfill⟩ := hk'
    have Hfill := Lib.hid hfill; clear hfill
    have HB := Lib.hid hB; clear hB
    by_cases hk0 : k < n
    · have hAw : StAt lo wr A0 n st := HA.out.below HB.out (Nat.le_refl _)
      obtain ⟨b, off, A3, c3, A4, c4, A5, c5, rfl, hb, r0, r1, r2, r3, r4, r5, r6, r7, d3, d4, d5⟩ := hAw.at_ hk0
      have C := Lib.hid (toStmt_any lo (st k) A3 A4 A5 c3 c4 c5 wr (HS.out k hk0) d3 d4 d5)
      clear d3 d4 d5
      have Hb := Lib.hid hb; clear hb hAw
      have hGr : G + 1 ≤ wr.heap.size := hbx.lt
      go_wp2_with (go_at_call 45; refine C.out.mono ?_; rintro e w1 ⟨⟨g3, g4, g5, rfl, hg3, hg4, hg5⟩, hb1⟩; replace hbx := hbx.below hb1 hbx.lt; have Hb1 := Lib.hid hb1; replace HB := Lib.hid (HB.out.trans (hb1.mono HB.out.size)); clear hb1; obtain ⟨k0, k1, k2, k3, k4, k5, k6, k7, f0, f1, f2, f3, f4, f5, f6, f7⟩ := eight_at hbx (k * 8) (by omega))
      have hK : Keeps (G + 1) wr ((((((((w1.setCell ⟨G, k * 8, none⟩ (.int .i64 (st k).kind)).setCell ⟨G, k * 8 + 1, none⟩ (.int .i64 (st k).var)).setCell ⟨G, k * 8 + 2, none⟩ (.int .i64 (st k).ex)).setCell ⟨G, k * 8 + 3, none⟩ (.slice (some ⟨g3, 0, none⟩) (st k).nc (st k).nc)).setCell ⟨G, k * 8 + 4, none⟩ (.slice (some ⟨g4, 0, none⟩) (st k).nt (st k).nt)).setCell ⟨G, k * 8 + 5, none⟩ (.slice (some ⟨g5, 0, none⟩) (st k).ne (st k).ne)).setCell ⟨G, k * 8 + 6, none⟩ (.int .i64 (st k).times)).setCell ⟨G, k * 8 + 7, none⟩ (.int .i64 (st k).proc)) := (((((((((Keeps.of_below Hb1.out (Nat.le_refl _)).trans (.set _ (Nat.lt_succ_self G) _ _)).trans (.set _ (Nat.lt_succ_self G) _ _)).trans (.set _ (Nat.lt_succ_self G) _ _)).trans (.set _ (Nat.lt_succ_self G) _ _)).trans (.set _ (Nat.lt_succ_self G) _ _)).trans (.set _ (Nat.lt_succ_self G) _ _)).trans (.set _ (Nat.lt_succ_self G) _ _)).trans (.set _ (Nat.lt_succ_self G) _ _))
      refine ⟨⟨k + 1, _, ⟨by omega, ?_, ?_⟩, (((((((hbx.set _ _).set _ _).set _ _).set _ _).set _ _).set _ _).set _ _).set _ _, ?_, by simp⟩, by simp [intOf]; omega⟩
      · simp [hcs]
      · exact fill8 (Q := fun j C => StR (G + 1) st ((((((((w1.setCell ⟨G, k * 8, none⟩ (.int .i64 (st k).kind)).setCell ⟨G, k * 8 + 1, none⟩ (.int .i64 (st k).var)).setCell ⟨G, k * 8 + 2, none⟩ (.int .i64 (st k).ex)).setCell ⟨G, k * 8 + 3, none⟩ (.slice (some ⟨g3, 0, none⟩) (st k).nc (st k).nc)).setCell ⟨G, k * 8 + 4, none⟩ (.slice (some ⟨g4, 0, none⟩) (st k).nt (st k).nt)).setCell ⟨G, k * 8 + 5, none⟩ (.slice (some ⟨g5, 0, none⟩) (st k).ne (st k).ne)).setCell ⟨G, k * 8 + 6, none⟩ (.int .i64 (st k).times)).setCell ⟨G, k * 8 + 7, none⟩ (.int .i64 (st k).proc)) j C) hcs hk0 (fun j hj => by
          obtain ⟨C, hC, hc⟩ := Hfill.out j hj
          exact ⟨C, StR.stays _ st _ _ _ _ hC hK, hc⟩) (fun c => match c with | 0 => .int .i64 (st k).kind | 1 => .int .i64 (st k).var | 2 => .int .i64 (st k).ex | 3 => .slice (some ⟨g3, 0, none⟩) (st k).nc (st k).nc | 4 => .slice (some ⟨g4, 0, none⟩) (st k).nt (st k).nt | 5 => .slice (some ⟨g5, 0, none⟩) (st k).ne (st k).ne | 6 => .int .i64 (st k).times | _ => .int .i64 (st k).proc) ⟨rfl, rfl, rfl, ⟨_, _, rfl, (((((((((hg3.low hGr).keep (.set _ (Nat.lt_succ_self G) _ _)).keep (.set _ (Nat.lt_succ_self G) _ _)).keep (.set _ (Nat.lt_succ_self G) _ _)).keep (.set _ (Nat.lt_succ_self G) _ _)).keep (.set _ (Nat.lt_succ_self G) _ _)).keep (.set _ (Nat.lt_succ_self G) _ _)).keep (.set _ (Nat.lt_succ_self G) _ _)).keep (.set _ (Nat.lt_succ_self G) _ _))⟩, ⟨_, _, rfl, (((((((((hg4.low hGr).keep (.set _ (Nat.lt_succ_self G) _ _)).keep (.set _ (Nat.lt_succ_self G) _ _)).keep (.set _ (Nat.lt_succ_self G) _ _)).keep (.set _ (Nat.lt_succ_self G) _ _)).keep (.set _ (Nat.lt_succ_self G) _ _)).keep (.set _ (Nat.lt_succ_self G) _ _)).keep (.set _ (Nat.lt_succ_self G) _ _)).keep (.set _ (Nat.lt_succ_self G) _ _))⟩, ⟨_, _, rfl, (((((((((hg5.low hGr).keep (.set _ (Nat.lt_succ_self G) _ _)).keep (.set _ (Nat.lt_succ_self G) _ _)).keep (.set _ (Nat.lt_succ_self G) _ _)).keep (.set _ (Nat.lt_succ_self G) _ _)).keep (.set _ (Nat.lt_succ_self G) _ _)).keep (.set _ (Nat.lt_succ_self G) _ _)).keep (.set _ (Nat.lt_succ_self G) _ _)).keep (.set _ (Nat.lt_succ_self G) _ _))⟩, rfl, rfl⟩
      · have hG2 : w.heap.size ≤ G := by rw [HG.out]; exact Nat.le_refl _
        exact ((((((((HB.out.setCell (p := ⟨G, k * 8, none⟩) hG2 _).setCell (p := ⟨G, k * 8 + 1, none⟩) hG2 _).setCell (p := ⟨G, k * 8 + 2, none⟩) hG2 _).setCell (p := ⟨G, k * 8 + 3, none⟩) hG2 _).setCell (p := ⟨G, k * 8 + 4, none⟩) hG2 _).setCell (p := ⟨G, k * 8 + 5, none⟩) hG2 _).setCell (p := ⟨G, k * 8 + 6, none⟩) hG2 _).setCell (p := ⟨G, k * 8 + 7, none⟩) hG2 _)
    · obtain rfl : k = n := by omega
      go_wp2_with fail
      go_ret
      refine ⟨⟨G, rfl, ?_⟩, HB.out⟩
      rw [← HG.out]
      exact Arr.low (fun j C h => StR.low h (by omega)) (Arr.of_box (Nat.le_refl G) hbx Hfill.out) (Nat.le_refl G)

set_option maxRecDepth 100000 in
set_option maxHeartbeats 3200000 in
theorem toProgram_any (lo : Nat) (P : Prg) (Av Ax As Ap Ab : Option Addr) (cv cx cs cp cb : Nat) (w : World) (hs : P.small) (h : PgAt lo w Av Ax As Ap Ab P) :
    Calls Tryz.prog 6 #[.agg #[.slice Av P.nv cv, .slice Ax P.nx cx, .slice As P.ns cs, .slice Ap P.np cp, .slice Ab P.nb cb, .int .i64 P.fuel]] w fun e w' =>
      (∃ g1 g2 g3 g4 g5, e = .returned (.agg #[.slice (some ⟨g1, 0, none⟩) P.nv P.nv, .slice (some ⟨g2, 0, none⟩) P.nx P.nx, .slice (some ⟨g3, 0, none⟩) P.ns P.ns, .slice (some ⟨g4, 0, none⟩) P.np P.np, .slice (some ⟨g5, 0, none⟩) P.nb P.nb, .int .i64 P.fuel]) ∧ VrAt w.heap.size w' (some ⟨g1, 0, none⟩) P.nv P.vn P.vz ∧ ExL w.heap.size w' (some ⟨g2, 0, none⟩) P.nx P.ex ∧ StAt w.heap.size w' (some ⟨g3, 0, none⟩) P.ns P.st ∧ PrAt w.heap.size w' (some ⟨g4, 0, none⟩) P.np P.pn P.pl P.pb ∧ IntsAt w.heap.size w' (some ⟨g5, 0, none⟩) P.nb P.bd) ∧ Below w.heap.size w w' := by
  have hP := Box.new w 28 #[.slice Av P.nv cv, .slice Ax P.nx cx, .slice As P.ns cs, .slice Ap P.np cp, .slice Ab P.nb cb, .int .i64 P.fuel]
  obtain ⟨q0, q1, q2, q3, q4, q5, qf⟩ := hP.six
  have C1 : Hid (∀ W, Below w.heap.size w W → _) := Lib.hid fun W hW => toVarS_any lo Av P.nv cv P.vn P.vz W hs.nv (h.v.below hW (Nat.le_refl _)) trivial
  have C2 : Hid (∀ W, Below w.heap.size w W → _) := Lib.hid fun W hW => toExL_any lo Ax P.nx cx P.ex W hs.nx (h.x.below hW (Nat.le_refl _))
  have C3 : Hid (∀ W, Below w.heap.size w W → _) := Lib.hid fun W hW => toStmtS_any lo As P.ns cs P.st W hs.ns (h.s.below hW (Nat.le_refl _)) hs.st
  have C4 : Hid (∀ W, Below w.heap.size w W → _) := Lib.hid fun W hW => toProcS_any lo Ap P.np cp P.pn P.pl P.pb W hs.np (h.p.below hW (Nat.le_refl _)) hs.pl
  have C5 : Hid (∀ W, Below w.heap.size w W → _) := Lib.hid fun W hW => toIntS_any lo Ab P.nb cb P.bd W hs.nb (h.b.below hW (Nat.le_refl _))
  have hB : Below w.heap.size w (((w.alloc (.cells #[.slice Av P.nv cv, .slice Ax P.nx cx, .slice As P.ns cs, .slice Ap P.np cp, .slice Ab P.nb cb, .int .i64 P.fuel] 28)).alloc (.cells #[.slice none 0 0, .slice none 0 0, .slice none 0 0, .slice none 0 0, .slice none 0 0, .int .i64 0] 37)).alloc (.cells #[.slice none 0 0, .slice none 0 0, .slice none 0 0, .slice none 0 0, .slice none 0 0, .int .i64 0] 37)) := (((Below.refl _ w).alloc (Nat.le_refl _) _).alloc (by simp) _).alloc (by simp; omega) _
  have hR := (Box.new (w.alloc (.cells #[.slice Av P.nv cv, .slice Ax P.nx cx, .slice As P.ns cs, .slice Ap P.np cp, .slice Ab P.nb cb, .int .i64 P.fuel] 28)) 37 #[.slice none 0 0, .slice none 0 0, .slice none 0 0, .slice none 0 0, .slice none 0 0, .int .i64 0]).alloc (.cells #[.slice none 0 0, .slice none 0 0, .slice none 0 0, .slice none 0 0, .slice none 0 0, .int .i64 0] 37)
  have hO := Box.new ((w.alloc (.cells #[.slice Av P.nv cv, .slice Ax P.nx cx, .slice As P.ns cs, .slice Ap P.np cp, .slice Ab P.nb cb, .int .i64 P.fuel] 28)).alloc (.cells #[.slice none 0 0, .slice none 0 0, .slice none 0 0, .slice none 0 0, .slice none 0 0, .int .i64 0] 37)) 37 #[.slice none 0 0, .slice none 0 0, .slice none 0 0, .slice none 0 0, .slice none 0 0, .int .i64 0]
  rw [show (w.alloc (.cells #[.slice Av P.nv cv, .slice Ax P.nx cx, .slice As P.ns cs, .slice Ap P.np cp, .slice Ab P.nb cb, .int .i64 P.fuel] 28)).heap.size = w.heap.size + 1 by simp] at hR
  rw [show ((w.alloc (.cells #[.slice Av P.nv cv, .slice Ax P.nx cx, .slice As P.ns cs, .slice Ap P.np cp, .slice Ab P.nb cb, .int .i64 P.fuel] 28)).alloc (.cells #[.slice none 0 0, .slice none 0 0, .slice none 0 0, .slice none 0 0, .slice none 0 0, .int .i64 0] 37)).heap.size = w.heap.size + 1 + 1 by simp] at hO
  replace hP := (hP.alloc (.cells #[.slice none 0 0, .slice none 0 0, .slice none 0 0, .slice none 0 0, .slice none 0 0, .int .i64 0] 37)).alloc (.cells #[.slice none 0 0, .slice none 0 0, .slice none 0 0, .slice none 0 0, .slice none 0 0, .int .i64 0] 37)
  clear h hs
  go_enter Tryz.func6, Tryz.ntmps6
  go_wp2_with (first
    | (go_at_call 18
       refine (C1.out _ hB).mono ?_
       rintro e w0 ⟨⟨g1, rfl, hg⟩, hb⟩
       have hM0 := hg.low (show w.heap.size + 1 + 1 + 1 ≤ _ by simp)
       clear hg q0 q1 q2 q3 q4 q5 qf
       have hP0 := hP.below hb hP.lt
       have hO0 := hO.below hb hO.lt
       have hR0 := hR.below hb hR.lt
       have hB0 := hB.trans (hb.mono hB.size)
       clear hP hO hR hB hb
       obtain ⟨q0, q1, q2, q3, q4, q5, qf⟩ := hP0.six
       obtain ⟨o0, o1, o2, o3, o4, o5, fo⟩ := hO0.six)
    | (go_at_call 19
       refine (C2.out _ (hB0.setCell (p := ⟨_, 0, none⟩) (by show w.heap.size ≤ w.heap.size + 1 + 1; omega) _)).mono ?_
       rintro e w1 ⟨⟨g2, rfl, hg⟩, hb⟩
       clear q0 q1 q2 q3 q4 q5 qf o0 o1 o2 o3 o4 o5 fo
       have hB1 := (hB0.setCell (p := ⟨_, 0, none⟩) (by show w.heap.size ≤ w.heap.size + 1 + 1; omega) _).trans (hb.mono (hB0.setCell (p := ⟨_, 0, none⟩) (by show w.heap.size ≤ w.heap.size + 1 + 1; omega) _).size)
       have hO1 : Box w1 (w.heap.size + 1 + 1) 37 #[.slice (some ⟨g1, 0, none⟩) P.nv P.nv, .slice none 0 0, .slice none 0 0, .slice none 0 0, .slice none 0 0, .int .i64 0] := (hO0.set 0 _).below hb (hO0.set 0 _).lt
       have hP1 : Box w1 w.heap.size 28 #[.slice Av P.nv cv, .slice Ax P.nx cx, .slice As P.ns cs, .slice Ap P.np cp, .slice Ab P.nb cb, .int .i64 P.fuel] := (hP0.far (by omega) 0 _).below hb (hP0.far (by omega) 0 _).lt
       have hR1 : Box w1 (w.heap.size + 1) 37 #[.slice none 0 0, .slice none 0 0, .slice none 0 0, .slice none 0 0, .slice none 0 0, .int .i64 0] := (hR0.far (by omega) 0 _).below hb (hR0.far (by omega) 0 _).lt
       have hM1 := hg.low (show w.heap.size + 1 + 1 + 1 ≤ _ by have := hO0.lt; simp [World.setCell]; omega)
       replace hM0 := (hM0.keep (.set _ (by omega) 0 _)).below hb (Nat.le_refl _)
       clear hg hO0 hP0 hR0 hB0 hb
       obtain ⟨q0, q1, q2, q3, q4, q5, qf⟩ := hP1.six
       obtain ⟨o0, o1, o2, o3, o4, o5, fo⟩ := hO1.six)
    | (go_at_call 20
       refine (C3.out _ (hB1.setCell (p := ⟨_, 1, none⟩) (by show w.heap.size ≤ w.heap.size + 1 + 1; omega) _)).mono ?_
       rintro e w2 ⟨⟨g3, rfl, hg⟩, hb⟩
       clear q0 q1 q2 q3 q4 q5 qf o0 o1 o2 o3 o4 o5 fo
       have hB2 := (hB1.setCell (p := ⟨_, 1, none⟩) (by show w.heap.size ≤ w.heap.size + 1 + 1; omega) _).trans (hb.mono (hB1.setCell (p := ⟨_, 1, none⟩) (by show w.heap.size ≤ w.heap.size + 1 + 1; omega) _).size)
       have hO2 : Box w2 (w.heap.size + 1 + 1) 37 #[.slice (some ⟨g1, 0, none⟩) P.nv P.nv, .slice (some ⟨g2, 0, none⟩) P.nx P.nx, .slice none 0 0, .slice none 0 0, .slice none 0 0, .int .i64 0] := (hO1.set 1 _).below hb (hO1.set 1 _).lt
       have hP2 : Box w2 w.heap.size 28 #[.slice Av P.nv cv, .slice Ax P.nx cx, .slice As P.ns cs, .slice Ap P.np cp, .slice Ab P.nb cb, .int .i64 P.fuel] := (hP1.far (by omega) 1 _).below hb (hP1.far (by omega) 1 _).lt
       have hR2 : Box w2 (w.heap.size + 1) 37 #[.slice none 0 0, .slice none 0 0, .slice none 0 0, .slice none 0 0, .slice none 0 0, .int .i64 0] := (hR1.far (by omega) 1 _).below hb (hR1.far (by omega) 1 _).lt
       have hM2 := hg.low (show w.heap.size + 1 + 1 + 1 ≤ _ by have := hO1.lt; simp [World.setCell]; omega)
       replace hM0 := (hM0.keep (.set _ (by omega) 1 _)).below hb (Nat.le_refl _)
       replace hM1 := (hM1.keep (.set _ (by omega) 1 _)).below hb (Nat.le_refl _)
       clear hg hO1 hP1 hR1 hB1 hb
       obtain ⟨q0, q1, q2, q3, q4, q5, qf⟩ := hP2.six
       obtain ⟨o0, o1, o2, o3, o4, o5, fo⟩ := hO2.six)
    | (go_at_call 21
       refine (C4.out _ (hB2.setCell (p := ⟨_, 2, none⟩) (by show w.heap.size ≤ w.heap.size + 1 + 1; omega) _)).mono ?_
       rintro e w3 ⟨⟨g4, rfl, hg⟩, hb⟩
       clear q0 q1 q2 q3 q4 q5 qf o0 o1 o2 o3 o4 o5 fo
       have hB3 := (hB2.setCell (p := ⟨_, 2, none⟩) (by show w.heap.size ≤ w.heap.size + 1 + 1; omega) _).trans (hb.mono (hB2.setCell (p := ⟨_, 2, none⟩) (by show w.heap.size ≤ w.heap.size + 1 + 1; omega) _).size)
       have hO3 : Box w3 (w.heap.size + 1 + 1) 37 #[.slice (some ⟨g1, 0, none⟩) P.nv P.nv, .slice (some ⟨g2, 0, none⟩) P.nx P.nx, .slice (some ⟨g3, 0, none⟩) P.ns P.ns, .slice none 0 0, .slice none 0 0, .int .i64 0] := (hO2.set 2 _).below hb (hO2.set 2 _).lt
       have hP3 : Box w3 w.heap.size 28 #[.slice Av P.nv cv, .slice Ax P.nx cx, .slice As P.ns cs, .slice Ap P.np cp, .slice Ab P.nb cb, .int .i64 P.fuel] := (hP2.far (by omega) 2 _).below hb (hP2.far (by omega) 2 _).lt
       have hR3 : Box w3 (w.heap.size + 1) 37 #[.slice none 0 0, .slice none 0 0, .slice none 0 0, .slice none 0 0, .slice none 0 0, .int .i64 0] := (hR2.far (by omega) 2 _).below hb (hR2.far (by omega) 2 _).lt
       have hM3 := hg.low (show w.heap.size + 1 + 1 + 1 ≤ _ by have := hO2.lt; simp [World.setCell]; omega)
       replace hM0 := (hM0.keep (.set _ (by omega) 2 _)).below hb (Nat.le_refl _)
       replace hM1 := (hM1.keep (.set _ (by omega) 2 _)).below hb (Nat.le_refl _)
       replace hM2 := (hM2.keep (.set _ (by omega) 2 _)).below hb (Nat.le_refl _)
       clear hg hO2 hP2 hR2 hB2 hb
       obtain ⟨q0, q1, q2, q3, q4, q5, qf⟩ := hP3.six
       obtain ⟨o0, o1, o2, o3, o4, o5, fo⟩ := hO3.six)
    | (go_at_call 22
       refine (C5.out _ (hB3.setCell (p := ⟨_, 3, none⟩) (by show w.heap.size ≤ w.heap.size + 1 + 1; omega) _)).mono ?_
       rintro e w4 ⟨⟨g5, rfl, hg⟩, hb⟩
       clear q0 q1 q2 q3 q4 q5 qf o0 o1 o2 o3 o4 o5 fo
       have hB4 := (hB3.setCell (p := ⟨_, 3, none⟩) (by show w.heap.size ≤ w.heap.size + 1 + 1; omega) _).trans (hb.mono (hB3.setCell (p := ⟨_, 3, none⟩) (by show w.heap.size ≤ w.heap.size + 1 + 1; omega) _).size)
       have hO4 : Box w4 (w.heap.size + 1 + 1) 37 #[.slice (some ⟨g1, 0, none⟩) P.nv P.nv, .slice (some ⟨g2, 0, none⟩) P.nx P.nx, .slice (some ⟨g3, 0, none⟩) P.ns P.ns, .slice (some ⟨g4, 0, none⟩) P.np P.np, .slice none 0 0, .int .i64 0] := (hO3.set 3 _).below hb (hO3.set 3 _).lt
       have hP4 : Box w4 w.heap.size 28 #[.slice Av P.nv cv, .slice Ax P.nx cx, .slice As P.ns cs, .slice Ap P.np cp, .slice Ab P.nb cb, .int .i64 P.fuel] := (hP3.far (by omega) 3 _).below hb (hP3.far (by omega) 3 _).lt
       have hR4 : Box w4 (w.heap.size + 1) 37 #[.slice none 0 0, .slice none 0 0, .slice none 0 0, .slice none 0 0, .slice none 0 0, .int .i64 0] := (hR3.far (by omega) 3 _).below hb (hR3.far (by omega) 3 _).lt
       have hM4 := hg.low (show w.heap.size + 1 + 1 + 1 ≤ _ by have := hO3.lt; simp [World.setCell]; omega)
       replace hM0 := (hM0.keep (.set _ (by omega) 3 _)).below hb (Nat.le_refl _)
       replace hM1 := (hM1.keep (.set _ (by omega) 3 _)).below hb (Nat.le_refl _)
       replace hM2 := (hM2.keep (.set _ (by omega) 3 _)).below hb (Nat.le_refl _)
       replace hM3 := (hM3.keep (.set _ (by omega) 3 _)).below hb (Nat.le_refl _)
       clear hg hO3 hP3 hR3 hB3 hb
       obtain ⟨q0, q1, q2, q3, q4, q5, qf⟩ := hP4.six
       obtain ⟨o0, o1, o2, o3, o4, o5, fo⟩ := hO4.six
       obtain ⟨z0, z1, z2, z3, z4, z5, fz⟩ := hR4.six))
  have hF := ((((((((hR4.far (show w.heap.size + 1 + 1 ≠ w.heap.size + 1 by omega) 4 (.slice (some ⟨g5, 0, none⟩) P.nb P.nb)).far (show w.heap.size + 1 + 1 ≠ w.heap.size + 1 by omega) 5 (.int .i64 P.fuel)).set 0 (.slice (some ⟨g1, 0, none⟩) P.nv P.nv)).set 1 (.slice (some ⟨g2, 0, none⟩) P.nx P.nx)).set 2 (.slice (some ⟨g3, 0, none⟩) P.ns P.ns)).set 3 (.slice (some ⟨g4, 0, none⟩) P.np P.np)).set 4 (.slice (some ⟨g5, 0, none⟩) P.nb P.nb)).set 5 (.int .i64 P.fuel))
  have k0 := hF.cell 0
  have k1 := hF.cell 1
  have k2 := hF.cell 2
  have k3 := hF.cell 3
  have k4 := hF.cell 4
  have k5 := hF.cell 5
  exact bodyPost_ret (v := .agg #[.slice (some ⟨g1, 0, none⟩) P.nv P.nv, .slice (some ⟨g2, 0, none⟩) P.nx P.nx, .slice (some ⟨g3, 0, none⟩) P.ns P.ns, .slice (some ⟨g4, 0, none⟩) P.np P.np, .slice (some ⟨g5, 0, none⟩) P.nb P.nb, .int .i64 P.fuel]) (by simp [results, Tryz.results6, go_sem, k0, k1, k2, k3, k4, k5]; done) rfl ⟨⟨g1, g2, g3, g4, g5, rfl, ((((((((hM0.keep (.set _ (by omega) 4 _)).keep (.set _ (by omega) 5 _)).keep (.set _ (by omega) 0 _)).keep (.set _ (by omega) 1 _)).keep (.set _ (by omega) 2 _)).keep (.set _ (by omega) 3 _)).keep (.set _ (by omega) 4 _)).keep (.set _ (by omega) 5 _)).low (by omega), ((((((((hM1.keep (.set _ (by omega) 4 _)).keep (.set _ (by omega) 5 _)).keep (.set _ (by omega) 0 _)).keep (.set _ (by omega) 1 _)).keep (.set _ (by omega) 2 _)).keep (.set _ (by omega) 3 _)).keep (.set _ (by omega) 4 _)).keep (.set _ (by omega) 5 _)).low (by omega), ((((((((hM2.keep (.set _ (by omega) 4 _)).keep (.set _ (by omega) 5 _)).keep (.set _ (by omega) 0 _)).keep (.set _ (by omega) 1 _)).keep (.set _ (by omega) 2 _)).keep (.set _ (by omega) 3 _)).keep (.set _ (by omega) 4 _)).keep (.set _ (by omega) 5 _)).low (by omega), ((((((((hM3.keep (.set _ (by omega) 4 _)).keep (.set _ (by omega) 5 _)).keep (.set _ (by omega) 0 _)).keep (.set _ (by omega) 1 _)).keep (.set _ (by omega) 2 _)).keep (.set _ (by omega) 3 _)).keep (.set _ (by omega) 4 _)).keep (.set _ (by omega) 5 _)).low (by omega), ((((((((hM4.keep (.set _ (by omega) 4 _)).keep (.set _ (by omega) 5 _)).keep (.set _ (by omega) 0 _)).keep (.set _ (by omega) 1 _)).keep (.set _ (by omega) 2 _)).keep (.set _ (by omega) 3 _)).keep (.set _ (by omega) 4 _)).keep (.set _ (by omega) 5 _)).low (by omega)⟩, ((((((((hB4.setCell (p := ⟨_, 4, none⟩) (by show w.heap.size ≤ w.heap.size + 1 + 1; omega) _).setCell (p := ⟨_, 5, none⟩) (by show w.heap.size ≤ w.heap.size + 1 + 1; omega) _).setCell (p := ⟨_, 0, none⟩) (by show w.heap.size ≤ w.heap.size + 1; omega) _).setCell (p := ⟨_, 1, none⟩) (by show w.heap.size ≤ w.heap.size + 1; omega) _).setCell (p := ⟨_, 2, none⟩) (by show w.heap.size ≤ w.heap.size + 1; omega) _).setCell (p := ⟨_, 3, none⟩) (by show w.heap.size ≤ w.heap.size + 1; omega) _).setCell (p := ⟨_, 4, none⟩) (by show w.heap.size ≤ w.heap.size + 1; omega) _).setCell (p := ⟨_, 5, none⟩) (by show w.heap.size ≤ w.heap.size + 1; omega) _)⟩

end Go.Proofs.YtoaiejodbmkbjaaGreatDoor
