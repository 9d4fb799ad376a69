/-
  Intervals of expressions: the model's operators. (Written by gen_pgrg3.py.)
-/
import Derived.Test.YtdeilceakhgjlaaPgRg1
namespace Go.Proofs.Ytdeilceakhgjlaa
open Go.RowKit Num

set_option maxRecDepth 100000 in
set_option maxHeartbeats 6400000 in
theorem known_any (p : Bool) (w : World) : Calls Try.prog 89 #[.bool p] w fun e w' => e = .returned (.agg #[.int .i64 (tr p), .int .i64 (tr p)]) ∧ Below w.heap.size w w' := by
  obtain ⟨w1, hw1⟩ : ∃ w1, w1 = w.alloc (.cells #[.int .i64 0, .int .i64 0] 59) := ⟨_, rfl⟩
  have hR : Box w1 w.heap.size 59 #[.int .i64 0, .int .i64 0] := by rw [hw1]; exact Box.new w 59 #[.int .i64 0, .int .i64 0]
  have hB : Below w.heap.size w w1 := by rw [hw1]; exact (Below.refl _ w).alloc (Nat.le_refl _) _
  have CB : Hid (∀ p W, _) := Lib.hid fun p W => bool3_any p W
  obtain ⟨r0, r1, rf⟩ := hR.duo
  go_enter Try.func89, Try.ntmps89
  go_upto_region 1 with fail
  rw [← hw1]
  clear hw1
  go_wp2_with (go_at_call 114; refine (CB.out _ _).mono ?_; rintro e w' ⟨rfl, rfl⟩)
  have hF := (hR.set 0 (.int .i64 (tr p))).set 1 (.int .i64 (tr p))
  have k0 := hF.cell 0
  have k1 := hF.cell 1
  exact bodyPost_ret (v := .agg #[.int .i64 (tr p), .int .i64 (tr p)]) (by simp [results, Try.results89, go_sem, k0, k1]; done) rfl ⟨rfl, (hB.setCell (p := ⟨w.heap.size, 0, none⟩) (by show w.heap.size ≤ w.heap.size; omega) _).setCell (p := ⟨w.heap.size, 1, none⟩) (by show w.heap.size ≤ w.heap.size; omega) _⟩

set_option maxRecDepth 100000 in
set_option maxHeartbeats 6400000 in
theorem yes_any (a b : Int) (w : World) : Calls Try.prog 88 #[.agg #[.int .i64 a, .int .i64 b]] w fun e w' => e = .returned (.bool (decide (0 < a))) ∧ Below w.heap.size w w' := by
  have hA := Box.new w 59 #[.int .i64 a, .int .i64 b]
  have hB := (Below.refl w.heap.size w).alloc (Nat.le_refl _) (.cells #[.int .i64 a, .int .i64 b] 59)
  obtain ⟨a0, a1, af⟩ := hA.duo
  cases hd : decide (0 < a)
  all_goals go_enter Try.func88, Try.ntmps88
  all_goals go_wp2_with fail
  all_goals go_ret
  all_goals exact ⟨rfl, hB⟩

set_option maxRecDepth 100000 in
set_option maxHeartbeats 6400000 in
theorem no_any (a b : Int) (w : World) : Calls Try.prog 90 #[.agg #[.int .i64 a, .int .i64 b]] w fun e w' => e = .returned (.bool (b == 0)) ∧ Below w.heap.size w w' := by
  have hA := Box.new w 59 #[.int .i64 a, .int .i64 b]
  have hB := (Below.refl w.heap.size w).alloc (Nat.le_refl _) (.cells #[.int .i64 a, .int .i64 b] 59)
  obtain ⟨a0, a1, af⟩ := hA.duo
  cases hd : (b == 0)
  all_goals go_enter Try.func90, Try.ntmps90
  all_goals go_wp2_with fail
  all_goals go_ret
  all_goals exact ⟨rfl, hB⟩

theorem opR6 (al ah bl bh : Int) (p q : Bool) (hp : (al == bl && ah == bh && al == ah) = p) (hq : (decide (al ≤ bh) && decide (bl ≤ ah)) = q) : opR 6 al ah bl bh = (tr p, tr q) := by rw [← hp, ← hq]; rfl
theorem opR7 (al ah bl bh : Int) (p q : Bool) (hp : decide (ah < bl) = p) (hq : decide (al < bh) = q) : opR 7 al ah bl bh = (tr p, tr q) := by rw [← hp, ← hq]; rfl
theorem opR8 (al ah bl bh : Int) (p q : Bool) (hp : (al != 0 && bl != 0) = p) (hq : (ah != 0 && bh != 0) = q) : opR 8 al ah bl bh = (tr p, tr q) := by rw [← hp, ← hq]; rfl
theorem opR9 (al ah bl bh : Int) (p q : Bool) (hp : (al != 0 || bl != 0) = p) (hq : (ah != 0 || bh != 0) = q) : opR 9 al ah bl bh = (tr p, tr q) := by rw [← hp, ← hq]; rfl
theorem opR10 (al ah bl bh : Int) (p q : Bool) (hp : (ah == 0) = p) (hq : (al == 0) = q) : opR 10 al ah bl bh = (tr p, tr q) := by rw [← hp, ← hq]; rfl

set_option maxRecDepth 100000 in
set_option maxHeartbeats 6400000 in
theorem compare5_any (o al ah bl bh : Int) (w : World) (h1 : IvOk (al, ah)) (h2 : IvOk (bl, bh)) (ho : o = 6 ∨ o = 7) :
    Calls Try.prog 92 #[.int .i64 o, .agg #[.int .i64 al, .int .i64 ah], .agg #[.int .i64 bl, .int .i64 bh]] w fun e w' => e = .returned (.agg #[.int .i64 (opR o al ah bl bh).1, .int .i64 (opR o al ah bl bh).2]) ∧ Below w.heap.size w w' := by
  obtain ⟨w3, hw3⟩ : ∃ w3, w3 = ((w.alloc (.cells #[.int .i64 al, .int .i64 ah] 59)).alloc (.cells #[.int .i64 bl, .int .i64 bh] 59)).alloc (.cells #[.int .i64 0, .int .i64 0] 59) := ⟨_, rfl⟩
  have hA : Box w3 w.heap.size 59 #[.int .i64 al, .int .i64 ah] := by rw [hw3]; exact ((Box.new w 59 #[.int .i64 al, .int .i64 ah]).alloc _).alloc _
  have hBx : Box w3 (w.heap.size + 1) 59 #[.int .i64 bl, .int .i64 bh] := by
    have := (Box.new (w.alloc (.cells #[.int .i64 al, .int .i64 ah] 59)) 59 #[.int .i64 bl, .int .i64 bh]).alloc (.cells #[.int .i64 0, .int .i64 0] 59)
    rw [World.size_alloc] at this
    rw [hw3]; exact this
  have hR : Box w3 (w.heap.size + 2) 59 #[.int .i64 0, .int .i64 0] := by
    have := Box.new ((w.alloc (.cells #[.int .i64 al, .int .i64 ah] 59)).alloc (.cells #[.int .i64 bl, .int .i64 bh] 59)) 59 #[.int .i64 0, .int .i64 0]
    rw [World.size_alloc, World.size_alloc] at this
    rw [hw3]; exact this
  have hB : Below w.heap.size w w3 := by rw [hw3]; exact (((Below.refl _ w).alloc (Nat.le_refl _) _).alloc (by simp) _).alloc (by simp; omega) _
  have CK : Hid (∀ p W, _) := Lib.hid fun p W => known_any p W
  obtain ⟨a0, a1, af⟩ := hA.duo
  obtain ⟨b0, b1, bf⟩ := hBx.duo
  obtain ⟨r0, r1, rf⟩ := hR.duo
  obtain ⟨i1, i2, i3⟩ := h1
  obtain ⟨j1, j2, j3⟩ := h2
  dsimp only at i1 i2 i3 j1 j2 j3
  rcases ho with rfl | rfl
  · skip
    by_cases hz4 : ah < bl
    · skip
      have c1 : decide (ah < bl) = true := decide_eq_true (by omega)
      have HV : opR 6 al ah bl bh = (tr false, tr false) := opR6 al ah bl bh _ _ (Bool.eq_false_iff.2 fun h => by first | (simp at h; done) | (simp at h; omega)) (Bool.eq_false_iff.2 fun h => by first | (simp at h; done) | (simp at h; omega))
      rw [HV]
      clear HV i1 i2 i3 j1 j2 j3
      try clear hz4
      try clear hz6
      try clear hz8
      try clear hz10
      go_enter Try.func92, Try.ntmps92
      go_upto_region 1 with fail
      rw [← hw3]
      clear hw3
      go_wp2_with ((go_at_call 89; refine (CK.out _ _).mono ?_; rintro e w' ⟨rfl, hb⟩; clear a0 a1 af b0 b1 bf r0 r1 rf; replace hA := hA.below hb hA.lt; replace hBx := hBx.below hb hBx.lt; replace hR := hR.below hb hR.lt; replace hB := hB.trans (hb.mono hB.size); obtain ⟨a0, a1, af⟩ := hA.duo; obtain ⟨b0, b1, bf⟩ := hBx.duo; obtain ⟨r0, r1, rf⟩ := hR.duo))
      have hF := (hR.set 0 (.int .i64 (tr false))).set 1 (.int .i64 (tr false))
      have k0 := hF.cell 0
      have k1 := hF.cell 1
      exact bodyPost_ret (v := .agg #[.int .i64 (tr false), .int .i64 (tr false)]) (by simp [results, Try.results92, go_sem, k0, k1]; done) rfl ⟨rfl, (hB.setCell (p := ⟨w.heap.size + 2, 0, none⟩) (by show w.heap.size ≤ w.heap.size + 2; omega) _).setCell (p := ⟨w.heap.size + 2, 1, none⟩) (by show w.heap.size ≤ w.heap.size + 2; omega) _⟩
    · skip
      by_cases hz6 : bh < al
      · skip
        have c1 : decide (ah < bl) = false := decide_eq_false (by omega)
        have c2 : decide (bh < al) = true := decide_eq_true (by omega)
        have HV : opR 6 al ah bl bh = (tr false, tr false) := opR6 al ah bl bh _ _ (Bool.eq_false_iff.2 fun h => by first | (simp at h; done) | (simp at h; omega)) (Bool.eq_false_iff.2 fun h => by first | (simp at h; done) | (simp at h; omega))
        rw [HV]
        clear HV i1 i2 i3 j1 j2 j3
        try clear hz4
        try clear hz6
        try clear hz8
        try clear hz10
        go_enter Try.func92, Try.ntmps92
        go_upto_region 1 with fail
        rw [← hw3]
        clear hw3
        go_wp2_with ((go_at_call 89; refine (CK.out _ _).mono ?_; rintro e w' ⟨rfl, hb⟩; clear a0 a1 af b0 b1 bf r0 r1 rf; replace hA := hA.below hb hA.lt; replace hBx := hBx.below hb hBx.lt; replace hR := hR.below hb hR.lt; replace hB := hB.trans (hb.mono hB.size); obtain ⟨a0, a1, af⟩ := hA.duo; obtain ⟨b0, b1, bf⟩ := hBx.duo; obtain ⟨r0, r1, rf⟩ := hR.duo))
        have hF := (hR.set 0 (.int .i64 (tr false))).set 1 (.int .i64 (tr false))
        have k0 := hF.cell 0
        have k1 := hF.cell 1
        exact bodyPost_ret (v := .agg #[.int .i64 (tr false), .int .i64 (tr false)]) (by simp [results, Try.results92, go_sem, k0, k1]; done) rfl ⟨rfl, (hB.setCell (p := ⟨w.heap.size + 2, 0, none⟩) (by show w.heap.size ≤ w.heap.size + 2; omega) _).setCell (p := ⟨w.heap.size + 2, 1, none⟩) (by show w.heap.size ≤ w.heap.size + 2; omega) _⟩
      · skip
        by_cases hz8 : al = ah
        · skip
          by_cases hz10 : bl = bh
          · skip
            have c1 : decide (ah < bl) = false := decide_eq_false (by omega)
            have c2 : decide (bh < al) = false := decide_eq_false (by omega)
            have c3 : (al == ah) = true := beq_iff_eq.2 (by omega)
            have c4 : (bl == bh) = true := beq_iff_eq.2 (by omega)
            have HV : opR 6 al ah bl bh = (tr true, tr true) := opR6 al ah bl bh _ _ (by first | (simp; done) | (simp; omega)) (by first | (simp; done) | (simp; omega))
            rw [HV]
            clear HV i1 i2 i3 j1 j2 j3
            try clear hz4
            try clear hz6
            try clear hz8
            try clear hz10
            go_enter Try.func92, Try.ntmps92
            go_upto_region 1 with fail
            rw [← hw3]
            clear hw3
            go_wp2_with ((go_at_call 89; refine (CK.out _ _).mono ?_; rintro e w' ⟨rfl, hb⟩; clear a0 a1 af b0 b1 bf r0 r1 rf; replace hA := hA.below hb hA.lt; replace hBx := hBx.below hb hBx.lt; replace hR := hR.below hb hR.lt; replace hB := hB.trans (hb.mono hB.size); obtain ⟨a0, a1, af⟩ := hA.duo; obtain ⟨b0, b1, bf⟩ := hBx.duo; obtain ⟨r0, r1, rf⟩ := hR.duo))
            have hF := (hR.set 0 (.int .i64 (tr true))).set 1 (.int .i64 (tr true))
            have k0 := hF.cell 0
            have k1 := hF.cell 1
            exact bodyPost_ret (v := .agg #[.int .i64 (tr true), .int .i64 (tr true)]) (by simp [results, Try.results92, go_sem, k0, k1]; done) rfl ⟨rfl, (hB.setCell (p := ⟨w.heap.size + 2, 0, none⟩) (by show w.heap.size ≤ w.heap.size + 2; omega) _).setCell (p := ⟨w.heap.size + 2, 1, none⟩) (by show w.heap.size ≤ w.heap.size + 2; omega) _⟩
          · skip
            have c1 : decide (ah < bl) = false := decide_eq_false (by omega)
            have c2 : decide (bh < al) = false := decide_eq_false (by omega)
            have c3 : (al == ah) = true := beq_iff_eq.2 (by omega)
            have c4 : (bl == bh) = false := beq_eq_false_iff_ne.2 (by omega)
            have HV : opR 6 al ah bl bh = (tr false, tr true) := opR6 al ah bl bh _ _ (Bool.eq_false_iff.2 fun h => by first | (simp at h; done) | (simp at h; omega)) (by first | (simp; done) | (simp; omega))
            rw [HV]
            clear HV i1 i2 i3 j1 j2 j3
            try clear hz4
            try clear hz6
            try clear hz8
            try clear hz10
            go_enter Try.func92, Try.ntmps92
            go_upto_region 1 with fail
            rw [← hw3]
            clear hw3
            go_wp2_with ((go_at_call 89; refine (CK.out _ _).mono ?_; rintro e w' ⟨rfl, hb⟩; clear a0 a1 af b0 b1 bf r0 r1 rf; replace hA := hA.below hb hA.lt; replace hBx := hBx.below hb hBx.lt; replace hR := hR.below hb hR.lt; replace hB := hB.trans (hb.mono hB.size); obtain ⟨a0, a1, af⟩ := hA.duo; obtain ⟨b0, b1, bf⟩ := hBx.duo; obtain ⟨r0, r1, rf⟩ := hR.duo))
            have hF := (hR.set 0 (.int .i64 (0))).set 1 (.int .i64 (1))
            have k0 := hF.cell 0
            have k1 := hF.cell 1
            exact bodyPost_ret (v := .agg #[.int .i64 (0), .int .i64 (1)]) (by simp [results, Try.results92, go_sem, k0, k1]; done) rfl ⟨rfl, (hB.setCell (p := ⟨w.heap.size + 2, 0, none⟩) (by show w.heap.size ≤ w.heap.size + 2; omega) _).setCell (p := ⟨w.heap.size + 2, 1, none⟩) (by show w.heap.size ≤ w.heap.size + 2; omega) _⟩
        · skip
          have c1 : decide (ah < bl) = false := decide_eq_false (by omega)
          have c2 : decide (bh < al) = false := decide_eq_false (by omega)
          have c3 : (al == ah) = false := beq_eq_false_iff_ne.2 (by omega)
          have HV : opR 6 al ah bl bh = (tr false, tr true) := opR6 al ah bl bh _ _ (Bool.eq_false_iff.2 fun h => by first | (simp at h; done) | (simp at h; omega)) (by first | (simp; done) | (simp; omega))
          rw [HV]
          clear HV i1 i2 i3 j1 j2 j3
          try clear hz4
          try clear hz6
          try clear hz8
          try clear hz10
          go_enter Try.func92, Try.ntmps92
          go_upto_region 1 with fail
          rw [← hw3]
          clear hw3
          go_wp2_with ((go_at_call 89; refine (CK.out _ _).mono ?_; rintro e w' ⟨rfl, hb⟩; clear a0 a1 af b0 b1 bf r0 r1 rf; replace hA := hA.below hb hA.lt; replace hBx := hBx.below hb hBx.lt; replace hR := hR.below hb hR.lt; replace hB := hB.trans (hb.mono hB.size); obtain ⟨a0, a1, af⟩ := hA.duo; obtain ⟨b0, b1, bf⟩ := hBx.duo; obtain ⟨r0, r1, rf⟩ := hR.duo))
          have hF := (hR.set 0 (.int .i64 (0))).set 1 (.int .i64 (1))
          have k0 := hF.cell 0
          have k1 := hF.cell 1
          exact bodyPost_ret (v := .agg #[.int .i64 (0), .int .i64 (1)]) (by simp [results, Try.results92, go_sem, k0, k1]; done) rfl ⟨rfl, (hB.setCell (p := ⟨w.heap.size + 2, 0, none⟩) (by show w.heap.size ≤ w.heap.size + 2; omega) _).setCell (p := ⟨w.heap.size + 2, 1, none⟩) (by show w.heap.size ≤ w.heap.size + 2; omega) _⟩
  · skip
    by_cases hz4 : ah < bl
    · skip
      have c1 : decide (ah < bl) = true := decide_eq_true (by omega)
      have HV : opR 7 al ah bl bh = (tr true, tr true) := opR7 al ah bl bh _ _ (by first | (simp; done) | (simp; omega)) (by first | (simp; done) | (simp; omega))
      rw [HV]
      clear HV i1 i2 i3 j1 j2 j3
      try clear hz4
      try clear hz6
      try clear hz8
      try clear hz10
      go_enter Try.func92, Try.ntmps92
      go_upto_region 1 with fail
      rw [← hw3]
      clear hw3
      go_wp2_with ((go_at_call 89; refine (CK.out _ _).mono ?_; rintro e w' ⟨rfl, hb⟩; clear a0 a1 af b0 b1 bf r0 r1 rf; replace hA := hA.below hb hA.lt; replace hBx := hBx.below hb hBx.lt; replace hR := hR.below hb hR.lt; replace hB := hB.trans (hb.mono hB.size); obtain ⟨a0, a1, af⟩ := hA.duo; obtain ⟨b0, b1, bf⟩ := hBx.duo; obtain ⟨r0, r1, rf⟩ := hR.duo))
      have hF := (hR.set 0 (.int .i64 (tr true))).set 1 (.int .i64 (tr true))
      have k0 := hF.cell 0
      have k1 := hF.cell 1
      exact bodyPost_ret (v := .agg #[.int .i64 (tr true), .int .i64 (tr true)]) (by simp [results, Try.results92, go_sem, k0, k1]; done) rfl ⟨rfl, (hB.setCell (p := ⟨w.heap.size + 2, 0, none⟩) (by show w.heap.size ≤ w.heap.size + 2; omega) _).setCell (p := ⟨w.heap.size + 2, 1, none⟩) (by show w.heap.size ≤ w.heap.size + 2; omega) _⟩
    · skip
      by_cases hz6 : bh ≤ al
      · skip
        have c1 : decide (ah < bl) = false := decide_eq_false (by omega)
        have g1 : decide (bh ≤ al) = true := decide_eq_true (by omega)
        have HV : opR 7 al ah bl bh = (tr false, tr false) := opR7 al ah bl bh _ _ (Bool.eq_false_iff.2 fun h => by first | (simp at h; done) | (simp at h; omega)) (Bool.eq_false_iff.2 fun h => by first | (simp at h; done) | (simp at h; omega))
        rw [HV]
        clear HV i1 i2 i3 j1 j2 j3
        try clear hz4
        try clear hz6
        try clear hz8
        try clear hz10
        go_enter Try.func92, Try.ntmps92
        go_upto_region 1 with fail
        rw [← hw3]
        clear hw3
        go_wp2_with ((go_at_call 89; refine (CK.out _ _).mono ?_; rintro e w' ⟨rfl, hb⟩; clear a0 a1 af b0 b1 bf r0 r1 rf; replace hA := hA.below hb hA.lt; replace hBx := hBx.below hb hBx.lt; replace hR := hR.below hb hR.lt; replace hB := hB.trans (hb.mono hB.size); obtain ⟨a0, a1, af⟩ := hA.duo; obtain ⟨b0, b1, bf⟩ := hBx.duo; obtain ⟨r0, r1, rf⟩ := hR.duo))
        have hF := (hR.set 0 (.int .i64 (tr false))).set 1 (.int .i64 (tr false))
        have k0 := hF.cell 0
        have k1 := hF.cell 1
        exact bodyPost_ret (v := .agg #[.int .i64 (tr false), .int .i64 (tr false)]) (by simp [results, Try.results92, go_sem, k0, k1]; done) rfl ⟨rfl, (hB.setCell (p := ⟨w.heap.size + 2, 0, none⟩) (by show w.heap.size ≤ w.heap.size + 2; omega) _).setCell (p := ⟨w.heap.size + 2, 1, none⟩) (by show w.heap.size ≤ w.heap.size + 2; omega) _⟩
      · skip
        have c1 : decide (ah < bl) = false := decide_eq_false (by omega)
        have g1 : decide (bh ≤ al) = false := decide_eq_false (by omega)
        have HV : opR 7 al ah bl bh = (tr false, tr true) := opR7 al ah bl bh _ _ (Bool.eq_false_iff.2 fun h => by first | (simp at h; done) | (simp at h; omega)) (by first | (simp; done) | (simp; omega))
        rw [HV]
        clear HV i1 i2 i3 j1 j2 j3
        try clear hz4
        try clear hz6
        try clear hz8
        try clear hz10
        go_enter Try.func92, Try.ntmps92
        go_upto_region 1 with fail
        rw [← hw3]
        clear hw3
        go_wp2_with ((go_at_call 89; refine (CK.out _ _).mono ?_; rintro e w' ⟨rfl, hb⟩; clear a0 a1 af b0 b1 bf r0 r1 rf; replace hA := hA.below hb hA.lt; replace hBx := hBx.below hb hBx.lt; replace hR := hR.below hb hR.lt; replace hB := hB.trans (hb.mono hB.size); obtain ⟨a0, a1, af⟩ := hA.duo; obtain ⟨b0, b1, bf⟩ := hBx.duo; obtain ⟨r0, r1, rf⟩ := hR.duo))
        have hF := (hR.set 0 (.int .i64 (0))).set 1 (.int .i64 (1))
        have k0 := hF.cell 0
        have k1 := hF.cell 1
        exact bodyPost_ret (v := .agg #[.int .i64 (0), .int .i64 (1)]) (by simp [results, Try.results92, go_sem, k0, k1]; done) rfl ⟨rfl, (hB.setCell (p := ⟨w.heap.size + 2, 0, none⟩) (by show w.heap.size ≤ w.heap.size + 2; omega) _).setCell (p := ⟨w.heap.size + 2, 1, none⟩) (by show w.heap.size ≤ w.heap.size + 2; omega) _⟩

set_option maxRecDepth 100000 in
set_option maxHeartbeats 6400000 in
theorem logic5_any (o al ah bl bh : Int) (w : World) (h1 : IvOk (al, ah)) (h2 : IvOk (bl, bh)) (ho : o = 8 ∨ o = 9) :
    Calls Try.prog 93 #[.int .i64 o, .agg #[.int .i64 al, .int .i64 ah], .agg #[.int .i64 bl, .int .i64 bh]] w fun e w' => e = .returned (.agg #[.int .i64 (opR o al ah bl bh).1, .int .i64 (opR o al ah bl bh).2]) ∧ Below w.heap.size w w' := by
  obtain ⟨w3, hw3⟩ : ∃ w3, w3 = ((w.alloc (.cells #[.int .i64 al, .int .i64 ah] 59)).alloc (.cells #[.int .i64 bl, .int .i64 bh] 59)).alloc (.cells #[.int .i64 0, .int .i64 0] 59) := ⟨_, rfl⟩
  have hA : Box w3 w.heap.size 59 #[.int .i64 al, .int .i64 ah] := by rw [hw3]; exact ((Box.new w 59 #[.int .i64 al, .int .i64 ah]).alloc _).alloc _
  have hBx : Box w3 (w.heap.size + 1) 59 #[.int .i64 bl, .int .i64 bh] := by
    have := (Box.new (w.alloc (.cells #[.int .i64 al, .int .i64 ah] 59)) 59 #[.int .i64 bl, .int .i64 bh]).alloc (.cells #[.int .i64 0, .int .i64 0] 59)
    rw [World.size_alloc] at this
    rw [hw3]; exact this
  have hR : Box w3 (w.heap.size + 2) 59 #[.int .i64 0, .int .i64 0] := by
    have := Box.new ((w.alloc (.cells #[.int .i64 al, .int .i64 ah] 59)).alloc (.cells #[.int .i64 bl, .int .i64 bh] 59)) 59 #[.int .i64 0, .int .i64 0]
    rw [World.size_alloc, World.size_alloc] at this
    rw [hw3]; exact this
  have hB : Below w.heap.size w w3 := by rw [hw3]; exact (((Below.refl _ w).alloc (Nat.le_refl _) _).alloc (by simp) _).alloc (by simp; omega) _
  have CK : Hid (∀ p W, _) := Lib.hid fun p W => known_any p W
  obtain ⟨a0, a1, af⟩ := hA.duo
  obtain ⟨b0, b1, bf⟩ := hBx.duo
  obtain ⟨r0, r1, rf⟩ := hR.duo
  obtain ⟨i1, i2, i3⟩ := h1
  obtain ⟨j1, j2, j3⟩ := h2
  dsimp only at i1 i2 i3 j1 j2 j3
  have CY : Hid (∀ a b W, _) := Lib.hid fun a b W => yes_any a b W
  have CN : Hid (∀ a b W, _) := Lib.hid fun a b W => no_any a b W
  rcases ho with rfl | rfl
  · skip
    by_cases hz4 : ah = 0
    · skip
      have na : (ah == 0) = true := beq_iff_eq.2 (by omega)
      have HV : opR 8 al ah bl bh = (tr false, tr false) := opR8 al ah bl bh _ _ (Bool.eq_false_iff.2 fun h => by first | (simp at h; done) | (simp at h; omega)) (Bool.eq_false_iff.2 fun h => by first | (simp at h; done) | (simp at h; omega))
      rw [HV]
      clear HV i1 i2 i3 j1 j2 j3
      try clear hz4
      try clear hz6
      try clear hz8
      try clear hz10
      go_enter Try.func93, Try.ntmps93
      go_upto_region 1 with fail
      rw [← hw3]
      clear hw3
      go_wp2_with (first | (go_at_call 89; refine (CK.out _ _).mono ?_; rintro e w' ⟨rfl, hb⟩; clear a0 a1 af b0 b1 bf r0 r1 rf; replace hA := hA.below hb hA.lt; replace hBx := hBx.below hb hBx.lt; replace hR := hR.below hb hR.lt; replace hB := hB.trans (hb.mono hB.size); obtain ⟨a0, a1, af⟩ := hA.duo; obtain ⟨b0, b1, bf⟩ := hBx.duo; obtain ⟨r0, r1, rf⟩ := hR.duo) | (go_at_call 88; refine (CY.out _ _ _).mono ?_; rintro e w' ⟨rfl, hb⟩; clear a0 a1 af b0 b1 bf r0 r1 rf; replace hA := hA.below hb hA.lt; replace hBx := hBx.below hb hBx.lt; replace hR := hR.below hb hR.lt; replace hB := hB.trans (hb.mono hB.size); obtain ⟨a0, a1, af⟩ := hA.duo; obtain ⟨b0, b1, bf⟩ := hBx.duo; obtain ⟨r0, r1, rf⟩ := hR.duo) | (go_at_call 90; refine (CN.out _ _ _).mono ?_; rintro e w' ⟨rfl, hb⟩; clear a0 a1 af b0 b1 bf r0 r1 rf; replace hA := hA.below hb hA.lt; replace hBx := hBx.below hb hBx.lt; replace hR := hR.below hb hR.lt; replace hB := hB.trans (hb.mono hB.size); obtain ⟨a0, a1, af⟩ := hA.duo; obtain ⟨b0, b1, bf⟩ := hBx.duo; obtain ⟨r0, r1, rf⟩ := hR.duo))
      have hF := (hR.set 0 (.int .i64 (tr false))).set 1 (.int .i64 (tr false))
      have k0 := hF.cell 0
      have k1 := hF.cell 1
      exact bodyPost_ret (v := .agg #[.int .i64 (tr false), .int .i64 (tr false)]) (by simp [results, Try.results93, go_sem, k0, k1]; done) rfl ⟨rfl, (hB.setCell (p := ⟨w.heap.size + 2, 0, none⟩) (by show w.heap.size ≤ w.heap.size + 2; omega) _).setCell (p := ⟨w.heap.size + 2, 1, none⟩) (by show w.heap.size ≤ w.heap.size + 2; omega) _⟩
    · skip
      by_cases hz6 : bh = 0
      · skip
        have na : (ah == 0) = false := beq_eq_false_iff_ne.2 (by omega)
        have nb : (bh == 0) = true := beq_iff_eq.2 (by omega)
        have HV : opR 8 al ah bl bh = (tr false, tr false) := opR8 al ah bl bh _ _ (Bool.eq_false_iff.2 fun h => by first | (simp at h; done) | (simp at h; omega)) (Bool.eq_false_iff.2 fun h => by first | (simp at h; done) | (simp at h; omega))
        rw [HV]
        clear HV i1 i2 i3 j1 j2 j3
        try clear hz4
        try clear hz6
        try clear hz8
        try clear hz10
        go_enter Try.func93, Try.ntmps93
        go_upto_region 1 with fail
        rw [← hw3]
        clear hw3
        go_wp2_with (first | (go_at_call 89; refine (CK.out _ _).mono ?_; rintro e w' ⟨rfl, hb⟩; clear a0 a1 af b0 b1 bf r0 r1 rf; replace hA := hA.below hb hA.lt; replace hBx := hBx.below hb hBx.lt; replace hR := hR.below hb hR.lt; replace hB := hB.trans (hb.mono hB.size); obtain ⟨a0, a1, af⟩ := hA.duo; obtain ⟨b0, b1, bf⟩ := hBx.duo; obtain ⟨r0, r1, rf⟩ := hR.duo) | (go_at_call 88; refine (CY.out _ _ _).mono ?_; rintro e w' ⟨rfl, hb⟩; clear a0 a1 af b0 b1 bf r0 r1 rf; replace hA := hA.below hb hA.lt; replace hBx := hBx.below hb hBx.lt; replace hR := hR.below hb hR.lt; replace hB := hB.trans (hb.mono hB.size); obtain ⟨a0, a1, af⟩ := hA.duo; obtain ⟨b0, b1, bf⟩ := hBx.duo; obtain ⟨r0, r1, rf⟩ := hR.duo) | (go_at_call 90; refine (CN.out _ _ _).mono ?_; rintro e w' ⟨rfl, hb⟩; clear a0 a1 af b0 b1 bf r0 r1 rf; replace hA := hA.below hb hA.lt; replace hBx := hBx.below hb hBx.lt; replace hR := hR.below hb hR.lt; replace hB := hB.trans (hb.mono hB.size); obtain ⟨a0, a1, af⟩ := hA.duo; obtain ⟨b0, b1, bf⟩ := hBx.duo; obtain ⟨r0, r1, rf⟩ := hR.duo))
        have hF := (hR.set 0 (.int .i64 (tr false))).set 1 (.int .i64 (tr false))
        have k0 := hF.cell 0
        have k1 := hF.cell 1
        exact bodyPost_ret (v := .agg #[.int .i64 (tr false), .int .i64 (tr false)]) (by simp [results, Try.results93, go_sem, k0, k1]; done) rfl ⟨rfl, (hB.setCell (p := ⟨w.heap.size + 2, 0, none⟩) (by show w.heap.size ≤ w.heap.size + 2; omega) _).setCell (p := ⟨w.heap.size + 2, 1, none⟩) (by show w.heap.size ≤ w.heap.size + 2; omega) _⟩
      · skip
        by_cases hz8 : 0 < al
        · skip
          by_cases hz10 : 0 < bl
          · skip
            have na : (ah == 0) = false := beq_eq_false_iff_ne.2 (by omega)
            have nb : (bh == 0) = false := beq_eq_false_iff_ne.2 (by omega)
            have ya : decide (0 < al) = true := decide_eq_true (by omega)
            have yb : decide (0 < bl) = true := decide_eq_true (by omega)
            have HV : opR 8 al ah bl bh = (tr true, tr true) := opR8 al ah bl bh _ _ (by first | (simp; done) | (simp; omega)) (by first | (simp; done) | (simp; omega))
            rw [HV]
            clear HV i1 i2 i3 j1 j2 j3
            try clear hz4
            try clear hz6
            try clear hz8
            try clear hz10
            go_enter Try.func93, Try.ntmps93
            go_upto_region 1 with fail
            rw [← hw3]
            clear hw3
            go_wp2_with (first | (go_at_call 89; refine (CK.out _ _).mono ?_; rintro e w' ⟨rfl, hb⟩; clear a0 a1 af b0 b1 bf r0 r1 rf; replace hA := hA.below hb hA.lt; replace hBx := hBx.below hb hBx.lt; replace hR := hR.below hb hR.lt; replace hB := hB.trans (hb.mono hB.size); obtain ⟨a0, a1, af⟩ := hA.duo; obtain ⟨b0, b1, bf⟩ := hBx.duo; obtain ⟨r0, r1, rf⟩ := hR.duo) | (go_at_call 88; refine (CY.out _ _ _).mono ?_; rintro e w' ⟨rfl, hb⟩; clear a0 a1 af b0 b1 bf r0 r1 rf; replace hA := hA.below hb hA.lt; replace hBx := hBx.below hb hBx.lt; replace hR := hR.below hb hR.lt; replace hB := hB.trans (hb.mono hB.size); obtain ⟨a0, a1, af⟩ := hA.duo; obtain ⟨b0, b1, bf⟩ := hBx.duo; obtain ⟨r0, r1, rf⟩ := hR.duo) | (go_at_call 90; refine (CN.out _ _ _).mono ?_; rintro e w' ⟨rfl, hb⟩; clear a0 a1 af b0 b1 bf r0 r1 rf; replace hA := hA.below hb hA.lt; replace hBx := hBx.below hb hBx.lt; replace hR := hR.below hb hR.lt; replace hB := hB.trans (hb.mono hB.size); obtain ⟨a0, a1, af⟩ := hA.duo; obtain ⟨b0, b1, bf⟩ := hBx.duo; obtain ⟨r0, r1, rf⟩ := hR.duo))
            have hF := (hR.set 0 (.int .i64 (tr true))).set 1 (.int .i64 (tr true))
            have k0 := hF.cell 0
            have k1 := hF.cell 1
            exact bodyPost_ret (v := .agg #[.int .i64 (tr true), .int .i64 (tr true)]) (by simp [results, Try.results93, go_sem, k0, k1]; done) rfl ⟨rfl, (hB.setCell (p := ⟨w.heap.size + 2, 0, none⟩) (by show w.heap.size ≤ w.heap.size + 2; omega) _).setCell (p := ⟨w.heap.size + 2, 1, none⟩) (by show w.heap.size ≤ w.heap.size + 2; omega) _⟩
          · skip
            have na : (ah == 0) = false := beq_eq_false_iff_ne.2 (by omega)
            have nb : (bh == 0) = false := beq_eq_false_iff_ne.2 (by omega)
            have ya : decide (0 < al) = true := decide_eq_true (by omega)
            have yb : decide (0 < bl) = false := decide_eq_false (by omega)
            have HV : opR 8 al ah bl bh = (tr false, tr true) := opR8 al ah bl bh _ _ (Bool.eq_false_iff.2 fun h => by first | (simp at h; done) | (simp at h; omega)) (by first | (simp; done) | (simp; omega))
            rw [HV]
            clear HV i1 i2 i3 j1 j2 j3
            try clear hz4
            try clear hz6
            try clear hz8
            try clear hz10
            go_enter Try.func93, Try.ntmps93
            go_upto_region 1 with fail
            rw [← hw3]
            clear hw3
            go_wp2_with (first | (go_at_call 89; refine (CK.out _ _).mono ?_; rintro e w' ⟨rfl, hb⟩; clear a0 a1 af b0 b1 bf r0 r1 rf; replace hA := hA.below hb hA.lt; replace hBx := hBx.below hb hBx.lt; replace hR := hR.below hb hR.lt; replace hB := hB.trans (hb.mono hB.size); obtain ⟨a0, a1, af⟩ := hA.duo; obtain ⟨b0, b1, bf⟩ := hBx.duo; obtain ⟨r0, r1, rf⟩ := hR.duo) | (go_at_call 88; refine (CY.out _ _ _).mono ?_; rintro e w' ⟨rfl, hb⟩; clear a0 a1 af b0 b1 bf r0 r1 rf; replace hA := hA.below hb hA.lt; replace hBx := hBx.below hb hBx.lt; replace hR := hR.below hb hR.lt; replace hB := hB.trans (hb.mono hB.size); obtain ⟨a0, a1, af⟩ := hA.duo; obtain ⟨b0, b1, bf⟩ := hBx.duo; obtain ⟨r0, r1, rf⟩ := hR.duo) | (go_at_call 90; refine (CN.out _ _ _).mono ?_; rintro e w' ⟨rfl, hb⟩; clear a0 a1 af b0 b1 bf r0 r1 rf; replace hA := hA.below hb hA.lt; replace hBx := hBx.below hb hBx.lt; replace hR := hR.below hb hR.lt; replace hB := hB.trans (hb.mono hB.size); obtain ⟨a0, a1, af⟩ := hA.duo; obtain ⟨b0, b1, bf⟩ := hBx.duo; obtain ⟨r0, r1, rf⟩ := hR.duo))
            have hF := (hR.set 0 (.int .i64 (0))).set 1 (.int .i64 (1))
            have k0 := hF.cell 0
            have k1 := hF.cell 1
            exact bodyPost_ret (v := .agg #[.int .i64 (0), .int .i64 (1)]) (by simp [results, Try.results93, go_sem, k0, k1]; done) rfl ⟨rfl, (hB.setCell (p := ⟨w.heap.size + 2, 0, none⟩) (by show w.heap.size ≤ w.heap.size + 2; omega) _).setCell (p := ⟨w.heap.size + 2, 1, none⟩) (by show w.heap.size ≤ w.heap.size + 2; omega) _⟩
        · skip
          have na : (ah == 0) = false := beq_eq_false_iff_ne.2 (by omega)
          have nb : (bh == 0) = false := beq_eq_false_iff_ne.2 (by omega)
          have ya : decide (0 < al) = false := decide_eq_false (by omega)
          have HV : opR 8 al ah bl bh = (tr false, tr true) := opR8 al ah bl bh _ _ (Bool.eq_false_iff.2 fun h => by first | (simp at h; done) | (simp at h; omega)) (by first | (simp; done) | (simp; omega))
          rw [HV]
          clear HV i1 i2 i3 j1 j2 j3
          try clear hz4
          try clear hz6
          try clear hz8
          try clear hz10
          go_enter Try.func93, Try.ntmps93
          go_upto_region 1 with fail
          rw [← hw3]
          clear hw3
          go_wp2_with (first | (go_at_call 89; refine (CK.out _ _).mono ?_; rintro e w' ⟨rfl, hb⟩; clear a0 a1 af b0 b1 bf r0 r1 rf; replace hA := hA.below hb hA.lt; replace hBx := hBx.below hb hBx.lt; replace hR := hR.below hb hR.lt; replace hB := hB.trans (hb.mono hB.size); obtain ⟨a0, a1, af⟩ := hA.duo; obtain ⟨b0, b1, bf⟩ := hBx.duo; obtain ⟨r0, r1, rf⟩ := hR.duo) | (go_at_call 88; refine (CY.out _ _ _).mono ?_; rintro e w' ⟨rfl, hb⟩; clear a0 a1 af b0 b1 bf r0 r1 rf; replace hA := hA.below hb hA.lt; replace hBx := hBx.below hb hBx.lt; replace hR := hR.below hb hR.lt; replace hB := hB.trans (hb.mono hB.size); obtain ⟨a0, a1, af⟩ := hA.duo; obtain ⟨b0, b1, bf⟩ := hBx.duo; obtain ⟨r0, r1, rf⟩ := hR.duo) | (go_at_call 90; refine (CN.out _ _ _).mono ?_; rintro e w' ⟨rfl, hb⟩; clear a0 a1 af b0 b1 bf r0 r1 rf; replace hA := hA.below hb hA.lt; replace hBx := hBx.below hb hBx.lt; replace hR := hR.below hb hR.lt; replace hB := hB.trans (hb.mono hB.size); obtain ⟨a0, a1, af⟩ := hA.duo; obtain ⟨b0, b1, bf⟩ := hBx.duo; obtain ⟨r0, r1, rf⟩ := hR.duo))
          have hF := (hR.set 0 (.int .i64 (0))).set 1 (.int .i64 (1))
          have k0 := hF.cell 0
          have k1 := hF.cell 1
          exact bodyPost_ret (v := .agg #[.int .i64 (0), .int .i64 (1)]) (by simp [results, Try.results93, go_sem, k0, k1]; done) rfl ⟨rfl, (hB.setCell (p := ⟨w.heap.size + 2, 0, none⟩) (by show w.heap.size ≤ w.heap.size + 2; omega) _).setCell (p := ⟨w.heap.size + 2, 1, none⟩) (by show w.heap.size ≤ w.heap.size + 2; omega) _⟩
  · skip
    by_cases hz4 : 0 < al
    · skip
      have ya : decide (0 < al) = true := decide_eq_true (by omega)
      have HV : opR 9 al ah bl bh = (tr true, tr true) := opR9 al ah bl bh _ _ (by first | (simp; done) | (simp; omega)) (by first | (simp; done) | (simp; omega))
      rw [HV]
      clear HV i1 i2 i3 j1 j2 j3
      try clear hz4
      try clear hz6
      try clear hz8
      try clear hz10
      go_enter Try.func93, Try.ntmps93
      go_upto_region 1 with fail
      rw [← hw3]
      clear hw3
      go_wp2_with (first | (go_at_call 89; refine (CK.out _ _).mono ?_; rintro e w' ⟨rfl, hb⟩; clear a0 a1 af b0 b1 bf r0 r1 rf; replace hA := hA.below hb hA.lt; replace hBx := hBx.below hb hBx.lt; replace hR := hR.below hb hR.lt; replace hB := hB.trans (hb.mono hB.size); obtain ⟨a0, a1, af⟩ := hA.duo; obtain ⟨b0, b1, bf⟩ := hBx.duo; obtain ⟨r0, r1, rf⟩ := hR.duo) | (go_at_call 88; refine (CY.out _ _ _).mono ?_; rintro e w' ⟨rfl, hb⟩; clear a0 a1 af b0 b1 bf r0 r1 rf; replace hA := hA.below hb hA.lt; replace hBx := hBx.below hb hBx.lt; replace hR := hR.below hb hR.lt; replace hB := hB.trans (hb.mono hB.size); obtain ⟨a0, a1, af⟩ := hA.duo; obtain ⟨b0, b1, bf⟩ := hBx.duo; obtain ⟨r0, r1, rf⟩ := hR.duo) | (go_at_call 90; refine (CN.out _ _ _).mono ?_; rintro e w' ⟨rfl, hb⟩; clear a0 a1 af b0 b1 bf r0 r1 rf; replace hA := hA.below hb hA.lt; replace hBx := hBx.below hb hBx.lt; replace hR := hR.below hb hR.lt; replace hB := hB.trans (hb.mono hB.size); obtain ⟨a0, a1, af⟩ := hA.duo; obtain ⟨b0, b1, bf⟩ := hBx.duo; obtain ⟨r0, r1, rf⟩ := hR.duo))
      have hF := (hR.set 0 (.int .i64 (tr true))).set 1 (.int .i64 (tr true))
      have k0 := hF.cell 0
      have k1 := hF.cell 1
      exact bodyPost_ret (v := .agg #[.int .i64 (tr true), .int .i64 (tr true)]) (by simp [results, Try.results93, go_sem, k0, k1]; done) rfl ⟨rfl, (hB.setCell (p := ⟨w.heap.size + 2, 0, none⟩) (by show w.heap.size ≤ w.heap.size + 2; omega) _).setCell (p := ⟨w.heap.size + 2, 1, none⟩) (by show w.heap.size ≤ w.heap.size + 2; omega) _⟩
    · skip
      by_cases hz6 : 0 < bl
      · skip
        have ya : decide (0 < al) = false := decide_eq_false (by omega)
        have yb : decide (0 < bl) = true := decide_eq_true (by omega)
        have HV : opR 9 al ah bl bh = (tr true, tr true) := opR9 al ah bl bh _ _ (by first | (simp; done) | (simp; omega)) (by first | (simp; done) | (simp; omega))
        rw [HV]
        clear HV i1 i2 i3 j1 j2 j3
        try clear hz4
        try clear hz6
        try clear hz8
        try clear hz10
        go_enter Try.func93, Try.ntmps93
        go_upto_region 1 with fail
        rw [← hw3]
        clear hw3
        go_wp2_with (first | (go_at_call 89; refine (CK.out _ _).mono ?_; rintro e w' ⟨rfl, hb⟩; clear a0 a1 af b0 b1 bf r0 r1 rf; replace hA := hA.below hb hA.lt; replace hBx := hBx.below hb hBx.lt; replace hR := hR.below hb hR.lt; replace hB := hB.trans (hb.mono hB.size); obtain ⟨a0, a1, af⟩ := hA.duo; obtain ⟨b0, b1, bf⟩ := hBx.duo; obtain ⟨r0, r1, rf⟩ := hR.duo) | (go_at_call 88; refine (CY.out _ _ _).mono ?_; rintro e w' ⟨rfl, hb⟩; clear a0 a1 af b0 b1 bf r0 r1 rf; replace hA := hA.below hb hA.lt; replace hBx := hBx.below hb hBx.lt; replace hR := hR.below hb hR.lt; replace hB := hB.trans (hb.mono hB.size); obtain ⟨a0, a1, af⟩ := hA.duo; obtain ⟨b0, b1, bf⟩ := hBx.duo; obtain ⟨r0, r1, rf⟩ := hR.duo) | (go_at_call 90; refine (CN.out _ _ _).mono ?_; rintro e w' ⟨rfl, hb⟩; clear a0 a1 af b0 b1 bf r0 r1 rf; replace hA := hA.below hb hA.lt; replace hBx := hBx.below hb hBx.lt; replace hR := hR.below hb hR.lt; replace hB := hB.trans (hb.mono hB.size); obtain ⟨a0, a1, af⟩ := hA.duo; obtain ⟨b0, b1, bf⟩ := hBx.duo; obtain ⟨r0, r1, rf⟩ := hR.duo))
        have hF := (hR.set 0 (.int .i64 (tr true))).set 1 (.int .i64 (tr true))
        have k0 := hF.cell 0
        have k1 := hF.cell 1
        exact bodyPost_ret (v := .agg #[.int .i64 (tr true), .int .i64 (tr true)]) (by simp [results, Try.results93, go_sem, k0, k1]; done) rfl ⟨rfl, (hB.setCell (p := ⟨w.heap.size + 2, 0, none⟩) (by show w.heap.size ≤ w.heap.size + 2; omega) _).setCell (p := ⟨w.heap.size + 2, 1, none⟩) (by show w.heap.size ≤ w.heap.size + 2; omega) _⟩
      · skip
        by_cases hz8 : ah = 0
        · skip
          by_cases hz10 : bh = 0
          · skip
            have ya : decide (0 < al) = false := decide_eq_false (by omega)
            have yb : decide (0 < bl) = false := decide_eq_false (by omega)
            have na : (ah == 0) = true := beq_iff_eq.2 (by omega)
            have nb : (bh == 0) = true := beq_iff_eq.2 (by omega)
            have HV : opR 9 al ah bl bh = (tr false, tr false) := opR9 al ah bl bh _ _ (Bool.eq_false_iff.2 fun h => by first | (simp at h; done) | (simp at h; omega)) (Bool.eq_false_iff.2 fun h => by first | (simp at h; done) | (simp at h; omega))
            rw [HV]
            clear HV i1 i2 i3 j1 j2 j3
            try clear hz4
            try clear hz6
            try clear hz8
            try clear hz10
            go_enter Try.func93, Try.ntmps93
            go_upto_region 1 with fail
            rw [← hw3]
            clear hw3
            go_wp2_with (first | (go_at_call 89; refine (CK.out _ _).mono ?_; rintro e w' ⟨rfl, hb⟩; clear a0 a1 af b0 b1 bf r0 r1 rf; replace hA := hA.below hb hA.lt; replace hBx := hBx.below hb hBx.lt; replace hR := hR.below hb hR.lt; replace hB := hB.trans (hb.mono hB.size); obtain ⟨a0, a1, af⟩ := hA.duo; obtain ⟨b0, b1, bf⟩ := hBx.duo; obtain ⟨r0, r1, rf⟩ := hR.duo) | (go_at_call 88; refine (CY.out _ _ _).mono ?_; rintro e w' ⟨rfl, hb⟩; clear a0 a1 af b0 b1 bf r0 r1 rf; replace hA := hA.below hb hA.lt; replace hBx := hBx.below hb hBx.lt; replace hR := hR.below hb hR.lt; replace hB := hB.trans (hb.mono hB.size); obtain ⟨a0, a1, af⟩ := hA.duo; obtain ⟨b0, b1, bf⟩ := hBx.duo; obtain ⟨r0, r1, rf⟩ := hR.duo) | (go_at_call 90; refine (CN.out _ _ _).mono ?_; rintro e w' ⟨rfl, hb⟩; clear a0 a1 af b0 b1 bf r0 r1 rf; replace hA := hA.below hb hA.lt; replace hBx := hBx.below hb hBx.lt; replace hR := hR.below hb hR.lt; replace hB := hB.trans (hb.mono hB.size); obtain ⟨a0, a1, af⟩ := hA.duo; obtain ⟨b0, b1, bf⟩ := hBx.duo; obtain ⟨r0, r1, rf⟩ := hR.duo))
            have hF := (hR.set 0 (.int .i64 (tr false))).set 1 (.int .i64 (tr false))
            have k0 := hF.cell 0
            have k1 := hF.cell 1
            exact bodyPost_ret (v := .agg #[.int .i64 (tr false), .int .i64 (tr false)]) (by simp [results, Try.results93, go_sem, k0, k1]; done) rfl ⟨rfl, (hB.setCell (p := ⟨w.heap.size + 2, 0, none⟩) (by show w.heap.size ≤ w.heap.size + 2; omega) _).setCell (p := ⟨w.heap.size + 2, 1, none⟩) (by show w.heap.size ≤ w.heap.size + 2; omega) _⟩
          · skip
            have ya : decide (0 < al) = false := decide_eq_false (by omega)
            have yb : decide (0 < bl) = false := decide_eq_false (by omega)
            have na : (ah == 0) = true := beq_iff_eq.2 (by omega)
            have nb : (bh == 0) = false := beq_eq_false_iff_ne.2 (by omega)
            have HV : opR 9 al ah bl bh = (tr false, tr true) := opR9 al ah bl bh _ _ (Bool.eq_false_iff.2 fun h => by first | (simp at h; done) | (simp at h; omega)) (by first | (simp; done) | (simp; omega))
            rw [HV]
            clear HV i1 i2 i3 j1 j2 j3
            try clear hz4
            try clear hz6
            try clear hz8
            try clear hz10
            go_enter Try.func93, Try.ntmps93
            go_upto_region 1 with fail
            rw [← hw3]
            clear hw3
            go_wp2_with (first | (go_at_call 89; refine (CK.out _ _).mono ?_; rintro e w' ⟨rfl, hb⟩; clear a0 a1 af b0 b1 bf r0 r1 rf; replace hA := hA.below hb hA.lt; replace hBx := hBx.below hb hBx.lt; replace hR := hR.below hb hR.lt; replace hB := hB.trans (hb.mono hB.size); obtain ⟨a0, a1, af⟩ := hA.duo; obtain ⟨b0, b1, bf⟩ := hBx.duo; obtain ⟨r0, r1, rf⟩ := hR.duo) | (go_at_call 88; refine (CY.out _ _ _).mono ?_; rintro e w' ⟨rfl, hb⟩; clear a0 a1 af b0 b1 bf r0 r1 rf; replace hA := hA.below hb hA.lt; replace hBx := hBx.below hb hBx.lt; replace hR := hR.below hb hR.lt; replace hB := hB.trans (hb.mono hB.size); obtain ⟨a0, a1, af⟩ := hA.duo; obtain ⟨b0, b1, bf⟩ := hBx.duo; obtain ⟨r0, r1, rf⟩ := hR.duo) | (go_at_call 90; refine (CN.out _ _ _).mono ?_; rintro e w' ⟨rfl, hb⟩; clear a0 a1 af b0 b1 bf r0 r1 rf; replace hA := hA.below hb hA.lt; replace hBx := hBx.below hb hBx.lt; replace hR := hR.below hb hR.lt; replace hB := hB.trans (hb.mono hB.size); obtain ⟨a0, a1, af⟩ := hA.duo; obtain ⟨b0, b1, bf⟩ := hBx.duo; obtain ⟨r0, r1, rf⟩ := hR.duo))
            have hF := (hR.set 0 (.int .i64 (0))).set 1 (.int .i64 (1))
            have k0 := hF.cell 0
            have k1 := hF.cell 1
            exact bodyPost_ret (v := .agg #[.int .i64 (0), .int .i64 (1)]) (by simp [results, Try.results93, go_sem, k0, k1]; done) rfl ⟨rfl, (hB.setCell (p := ⟨w.heap.size + 2, 0, none⟩) (by show w.heap.size ≤ w.heap.size + 2; omega) _).setCell (p := ⟨w.heap.size + 2, 1, none⟩) (by show w.heap.size ≤ w.heap.size + 2; omega) _⟩
        · skip
          have ya : decide (0 < al) = false := decide_eq_false (by omega)
          have yb : decide (0 < bl) = false := decide_eq_false (by omega)
          have na : (ah == 0) = false := beq_eq_false_iff_ne.2 (by omega)
          have HV : opR 9 al ah bl bh = (tr false, tr true) := opR9 al ah bl bh _ _ (Bool.eq_false_iff.2 fun h => by first | (simp at h; done) | (simp at h; omega)) (by first | (simp; done) | (simp; omega))
          rw [HV]
          clear HV i1 i2 i3 j1 j2 j3
          try clear hz4
          try clear hz6
          try clear hz8
          try clear hz10
          go_enter Try.func93, Try.ntmps93
          go_upto_region 1 with fail
          rw [← hw3]
          clear hw3
          go_wp2_with (first | (go_at_call 89; refine (CK.out _ _).mono ?_; rintro e w' ⟨rfl, hb⟩; clear a0 a1 af b0 b1 bf r0 r1 rf; replace hA := hA.below hb hA.lt; replace hBx := hBx.below hb hBx.lt; replace hR := hR.below hb hR.lt; replace hB := hB.trans (hb.mono hB.size); obtain ⟨a0, a1, af⟩ := hA.duo; obtain ⟨b0, b1, bf⟩ := hBx.duo; obtain ⟨r0, r1, rf⟩ := hR.duo) | (go_at_call 88; refine (CY.out _ _ _).mono ?_; rintro e w' ⟨rfl, hb⟩; clear a0 a1 af b0 b1 bf r0 r1 rf; replace hA := hA.below hb hA.lt; replace hBx := hBx.below hb hBx.lt; replace hR := hR.below hb hR.lt; replace hB := hB.trans (hb.mono hB.size); obtain ⟨a0, a1, af⟩ := hA.duo; obtain ⟨b0, b1, bf⟩ := hBx.duo; obtain ⟨r0, r1, rf⟩ := hR.duo) | (go_at_call 90; refine (CN.out _ _ _).mono ?_; rintro e w' ⟨rfl, hb⟩; clear a0 a1 af b0 b1 bf r0 r1 rf; replace hA := hA.below hb hA.lt; replace hBx := hBx.below hb hBx.lt; replace hR := hR.below hb hR.lt; replace hB := hB.trans (hb.mono hB.size); obtain ⟨a0, a1, af⟩ := hA.duo; obtain ⟨b0, b1, bf⟩ := hBx.duo; obtain ⟨r0, r1, rf⟩ := hR.duo))
          have hF := (hR.set 0 (.int .i64 (0))).set 1 (.int .i64 (1))
          have k0 := hF.cell 0
          have k1 := hF.cell 1
          exact bodyPost_ret (v := .agg #[.int .i64 (0), .int .i64 (1)]) (by simp [results, Try.results93, go_sem, k0, k1]; done) rfl ⟨rfl, (hB.setCell (p := ⟨w.heap.size + 2, 0, none⟩) (by show w.heap.size ≤ w.heap.size + 2; omega) _).setCell (p := ⟨w.heap.size + 2, 1, none⟩) (by show w.heap.size ≤ w.heap.size + 2; omega) _⟩

end Go.Proofs.Ytdeilceakhgjlaa
