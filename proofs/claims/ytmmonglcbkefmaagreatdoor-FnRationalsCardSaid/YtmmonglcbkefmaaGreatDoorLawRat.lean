/-
  The law on sums, products, differences, quotients and the order of two Rats. (Written by gen_ratlaw.py.)
-/
import Derived.Test.YtmmonglcbkefmaaGreatDoorRatLaw
import Derived.Test.YtmmonglcbkefmaaGreatDoorDrawB
import Derived.Test.YtmmonglcbkefmaaGreatDoorImplDiv
import Derived.Test.YtmmonglcbkefmaaGreatDoorImplMul
import Derived.Test.YtmmonglcbkefmaaGreatDoorLawComps
import Derived.Test.YtmmonglcbkefmaaGreatDoorRatOfI
namespace Go.Proofs.YtmmonglcbkefmaaGreatDoor
open Go.RowKit Num

/-- Rats in their blocks. -/
def Boxes (W : World) (l : List (Nat × Array Value)) : Prop := ∀ p ∈ l, Box W p.1 24 p.2
theorem Boxes.below {W W' : World} {l : List (Nat × Array Value)} (h : Boxes W l) (hb : Below W.heap.size W W') : Boxes W' l := fun p hp => (h p hp).below hb (h p hp).lt
theorem Boxes.more {W : World} {l : List (Nat × Array Value)} {g : Nat} {cs : Array Value} (h : Boxes W l) (hx : Box W g 24 cs) : Boxes W ((g, cs) :: l) := fun p hp => by
  rcases List.mem_cons.1 hp with rfl | hp
  · exact hx
  · exact h p hp
theorem Boxes.tail {W : World} {p : Nat × Array Value} {l : List (Nat × Array Value)} (h : Boxes W (p :: l)) : Boxes W l := fun q hq => h q (List.mem_cons_of_mem _ hq)
theorem Boxes.at {W : World} {l : List (Nat × Array Value)} (h : Boxes W l) (i : Nat) {g : Nat} {cs : Array Value} (hi : l[i]? = some (g, cs)) : Box W g 24 cs := h _ (List.mem_of_getElem? hi)

theorem Boxes.get {W : World} {l : List (Nat × Array Value)} (h : Boxes W l) (i : Nat) {g : Nat} {a b c : Value} (hi : l[i]? = some (g, #[a, b, c])) : W.cell? ⟨g, 0, none⟩ = some a ∧ W.cell? ⟨g, 1, none⟩ = some b ∧ W.cell? ⟨g, 2, none⟩ = some c := by
  obtain ⟨h1, h2, h3, _⟩ := (h.at i hi).three
  exact ⟨h1, h2, h3⟩

/-- A Rat that a call handed back is laid into a new block. -/
theorem laid_new {w V W1 : World} {l : List (Nat × Array Value)} (cs : Array Value) (hB : Below w.heap.size w V) (hL : Boxes V l) (hb : Below V.heap.size V W1) : Below w.heap.size w (W1.alloc (.cells cs 24)) ∧ Boxes (W1.alloc (.cells cs 24)) ((W1.heap.size, cs) :: l) := by
  have h1 := hB.trans (hb.mono hB.size)
  have hal := (Below.refl W1.heap.size W1).alloc (Nat.le_refl _) (.cells cs 24)
  exact ⟨h1.trans (hal.mono h1.size), ((hL.below hb).below hal).more (Box.new W1 _ cs)⟩

theorem ratRes_short {sg : Bool} {N D : Nat} {b : Bool} {x y : ByteArray} {c : Bool} (h : ratRes sg N D = .tuple #[.agg #[.bool b, .string x, .string y], .bool c]) : x.size ≤ 120 ∧ y.size ≤ 120 := by
  obtain ⟨b', x', y', c', e, h1, h2⟩ := ratRes_small sg N D
  rw [e] at h
  simp at h
  obtain ⟨⟨_, rfl, rfl⟩, _⟩ := h
  exact ⟨h1, h2⟩
theorem noRat_short {b : Bool} {x y : ByteArray} {c : Bool} (h : noRat = .tuple #[.agg #[.bool b, .string x, .string y], .bool c]) : x.size ≤ 120 ∧ y.size ≤ 120 := by
  simp [noRat] at h
  obtain ⟨⟨_, rfl, rfl⟩, _⟩ := h
  exact ⟨Nat.zero_le _, Nat.zero_le _⟩
theorem opRes_short {b1 : Bool} {x1 y1 : ByteArray} {b2 : Bool} {x2 y2 : ByteArray} {o : Bool × Nat × Nat} {b : Bool} {x y : ByteArray} {c : Bool} (h : opRes b1 x1 y1 b2 x2 y2 o = .tuple #[.agg #[.bool b, .string x, .string y], .bool c]) : x.size ≤ 120 ∧ y.size ≤ 120 := by
  unfold opRes at h
  split at h
  · exact ratRes_short h
  · exact noRat_short h
theorem divRes_short {b1 : Bool} {x1 y1 : ByteArray} {b2 : Bool} {x2 y2 : ByteArray} {b : Bool} {x y : ByteArray} {c : Bool} (h : divRes b1 x1 y1 b2 x2 y2 = .tuple #[.agg #[.bool b, .string x, .string y], .bool c]) : x.size ≤ 120 ∧ y.size ≤ 120 := by
  unfold divRes at h
  split at h
  · exact ratRes_short h
  · exact noRat_short h

/-- Ten Rats in their blocks, whatever was made since. -/
theorem hold30 {V W' : World} {g0 g1 g2 g3 g4 g5 g6 g7 g8 g9 : Nat} {u0 v0 w0 u1 v1 w1 u2 v2 w2 u3 v3 w3 u4 v4 w4 u5 v5 w5 u6 v6 w6 u7 v7 w7 u8 v8 w8 u9 v9 w9 : Value} (hL : Boxes V [(g0, #[u0, v0, w0]), (g1, #[u1, v1, w1]), (g2, #[u2, v2, w2]), (g3, #[u3, v3, w3]), (g4, #[u4, v4, w4]), (g5, #[u5, v5, w5]), (g6, #[u6, v6, w6]), (g7, #[u7, v7, w7]), (g8, #[u8, v8, w8]), (g9, #[u9, v9, w9])]) (hb : Below V.heap.size V W') :
    W'.cell? ⟨g0, 0, none⟩ = some u0 ∧ W'.cell? ⟨g0, 1, none⟩ = some v0 ∧ W'.cell? ⟨g0, 2, none⟩ = some w0 ∧ W'.cell? ⟨g1, 0, none⟩ = some u1 ∧ W'.cell? ⟨g1, 1, none⟩ = some v1 ∧ W'.cell? ⟨g1, 2, none⟩ = some w1 ∧ W'.cell? ⟨g2, 0, none⟩ = some u2 ∧ W'.cell? ⟨g2, 1, none⟩ = some v2 ∧ W'.cell? ⟨g2, 2, none⟩ = some w2 ∧ W'.cell? ⟨g3, 0, none⟩ = some u3 ∧ W'.cell? ⟨g3, 1, none⟩ = some v3 ∧ W'.cell? ⟨g3, 2, none⟩ = some w3 ∧ W'.cell? ⟨g4, 0, none⟩ = some u4 ∧ W'.cell? ⟨g4, 1, none⟩ = some v4 ∧ W'.cell? ⟨g4, 2, none⟩ = some w4 ∧ W'.cell? ⟨g5, 0, none⟩ = some u5 ∧ W'.cell? ⟨g5, 1, none⟩ = some v5 ∧ W'.cell? ⟨g5, 2, none⟩ = some w5 ∧ W'.cell? ⟨g6, 0, none⟩ = some u6 ∧ W'.cell? ⟨g6, 1, none⟩ = some v6 ∧ W'.cell? ⟨g6, 2, none⟩ = some w6 ∧ W'.cell? ⟨g7, 0, none⟩ = some u7 ∧ W'.cell? ⟨g7, 1, none⟩ = some v7 ∧ W'.cell? ⟨g7, 2, none⟩ = some w7 ∧ W'.cell? ⟨g8, 0, none⟩ = some u8 ∧ W'.cell? ⟨g8, 1, none⟩ = some v8 ∧ W'.cell? ⟨g8, 2, none⟩ = some w8 ∧ W'.cell? ⟨g9, 0, none⟩ = some u9 ∧ W'.cell? ⟨g9, 1, none⟩ = some v9 ∧ W'.cell? ⟨g9, 2, none⟩ = some w9 ∧ Below V.heap.size V W' := by
  have h := hL.below hb
  obtain ⟨p0, q0, r0⟩ := h.get 0 rfl
  obtain ⟨p1, q1, r1⟩ := h.get 1 rfl
  obtain ⟨p2, q2, r2⟩ := h.get 2 rfl
  obtain ⟨p3, q3, r3⟩ := h.get 3 rfl
  obtain ⟨p4, q4, r4⟩ := h.get 4 rfl
  obtain ⟨p5, q5, r5⟩ := h.get 5 rfl
  obtain ⟨p6, q6, r6⟩ := h.get 6 rfl
  obtain ⟨p7, q7, r7⟩ := h.get 7 rfl
  obtain ⟨p8, q8, r8⟩ := h.get 8 rfl
  obtain ⟨p9, q9, r9⟩ := h.get 9 rfl
  exact ⟨p0, q0, r0, p1, q1, r1, p2, q2, r2, p3, q3, r3, p4, q4, r4, p5, q5, r5, p6, q6, r6, p7, q7, r7, p8, q8, r8, p9, q9, r9, hb⟩
theorem hold30_below {V W' : World} {P0 P1 P2 P3 P4 P5 P6 P7 P8 P9 P10 P11 P12 P13 P14 P15 P16 P17 P18 P19 P20 P21 P22 P23 P24 P25 P26 P27 P28 P29 : Prop} (h : P0 ∧ P1 ∧ P2 ∧ P3 ∧ P4 ∧ P5 ∧ P6 ∧ P7 ∧ P8 ∧ P9 ∧ P10 ∧ P11 ∧ P12 ∧ P13 ∧ P14 ∧ P15 ∧ P16 ∧ P17 ∧ P18 ∧ P19 ∧ P20 ∧ P21 ∧ P22 ∧ P23 ∧ P24 ∧ P25 ∧ P26 ∧ P27 ∧ P28 ∧ P29 ∧ Below V.heap.size V W') : Below V.heap.size V W' := h.2.2.2.2.2.2.2.2.2.2.2.2.2.2.2.2.2.2.2.2.2.2.2.2.2.2.2.2.2.2

set_option maxRecDepth 100000 in
set_option maxHeartbeats 4000000 in
theorem lawRats_any (A1 : Option Addr) (n1 c1 : Nat) (A2 : Option Addr) (n2 c2 : Nat) (w : World) (hn : n1 ≤ 9223372036854775807) (hA : BytesAt w A1 n1 w.heap.size) (hU : UnitB w) (hT : Tab64 w) (hP : TabP w) :
    Calls Tryz.prog 3 #[.slice A1 n1 c1, .slice A2 n2 c2] w fun e w' => e = .returned (.bool true) ∧ Below w.heap.size w w' := by
  have CD : Hid (∀ (_ : Unit), _) := Lib.hid fun _ => drawAdd_any A1 n1 c1 w hn hA
  clear hA
  go_enter Tryz.func3, Tryz.ntmps3
  go_upto_region 4 with (go_at_call 6; refine (CD.out ()).mono ?_; rintro e w1 ⟨⟨b1, x1, y1, b2, x2, y2, rfl, k1, k2, k3, k4⟩, hb1⟩)
  · go_ret
    exact ⟨rfl, Below.refl _ w⟩
  have e0 : ∀ (W : World) (o : Obj), (W.alloc o).heap.size = W.heap.size + 1 := fun W o => by simp
  have hz0 : Boxes w [] := fun p hp => by cases hp
  obtain ⟨hB1, hL1⟩ := laid_new #[.bool b1, .string x1, .string y1] (Below.refl w.heap.size w) hz0 hb1
  obtain ⟨hB, hL⟩ := laid_new #[.bool b2, .string x2, .string y2] hB1 hL1 (Below.refl _ _)
  rw [e0] at hL
  clear hB1 hL1 hz0 hb1 CD
  obtain ⟨V, hV⟩ : ∃ V, V = (w1.alloc (.cells #[.bool b1, .string x1, .string y1] 24)).alloc (.cells #[.bool b2, .string x2, .string y2] 24) := ⟨_, rfl⟩
  rw [← hV] at hB hL ⊢
  clear hV
  generalize w1.heap.size + 1 = GB at hL ⊢
  generalize w1.heap.size = GA at hL ⊢
  clear w1
  obtain ⟨sb, sx, sy, sc, hAdd⟩ := opRes_shape b1 x1 y1 b2 x2 y2 (addO b1 (numOf x1) (numOf y1) b2 (numOf x2) (numOf y2))
  obtain ⟨pb, px, py, pc, hMul⟩ := opRes_shape b1 x1 y1 b2 x2 y2 (mulO b1 (numOf x1) (numOf y1) b2 (numOf x2) (numOf y2))
  obtain ⟨db, dx, dy, dc, hSub⟩ := opRes_shape b1 x1 y1 b2 x2 y2 (addO b1 (numOf x1) (numOf y1) (!b2 && decide (0 < numOf x2)) (numOf x2) (numOf y2))
  obtain ⟨qb, qx, qy, qc, hDiv⟩ := divRes_shape b1 x1 y1 b2 x2 y2
  obtain ⟨cc, hcc⟩ : ∃ c, c = cmpRes b1 x1 y1 b2 x2 y2 := ⟨_, rfl⟩
  obtain ⟨cv, hcv⟩ : ∃ c, c = (validR b1 x1 y1 && validR b2 x2 y2) := ⟨_, rfl⟩
  obtain ⟨va, hva⟩ : ∃ c, c = validR b1 x1 y1 := ⟨_, rfl⟩
  have CV : Hid (∀ W, Below w.heap.size w W → _) := Lib.hid fun W hW => implValid_any b1 x1 y1 W (by omega) (by omega) (hU.below hW) (hT.below hW)
  have CV' : Hid (∀ (W : World), _) := Lib.hid fun W => specValid_any b1 x1 y1 W (by omega) (by omega)
  have CC : Hid (∀ W, Below w.heap.size w W → _) := Lib.hid fun W hW => implCompare_any b1 x1 y1 b2 x2 y2 W (by omega) (by omega) (by omega) (by omega) (hU.below hW) (hT.below hW)
  have CC' : Hid (∀ (W : World), _) := Lib.hid fun W => specCompare_any b1 x1 y1 b2 x2 y2 W (by omega) (by omega) (by omega) (by omega)
  have C1 : Hid (∀ W, Below w.heap.size w W → _) := Lib.hid fun W hW => implAdd_any b1 x1 y1 b2 x2 y2 W (by omega) (by omega) (by omega) (by omega) (hU.below hW) (hT.below hW) (staysP.below _ _ hP hW)
  have C2 : Hid (∀ (W : World), _) := Lib.hid fun W => specAdd_any b1 x1 y1 b2 x2 y2 W (by omega) (by omega) (by omega) (by omega)
  have C3 : Hid (∀ W, Below w.heap.size w W → _) := Lib.hid fun W hW => implMul_any b1 x1 y1 b2 x2 y2 W (by omega) (by omega) (by omega) (by omega) (hU.below hW) (hT.below hW) (staysP.below _ _ hP hW)
  have C4 : Hid (∀ (W : World), _) := Lib.hid fun W => specMul_any b1 x1 y1 b2 x2 y2 W (by omega) (by omega) (by omega) (by omega)
  have C5 : Hid (∀ W, Below w.heap.size w W → _) := Lib.hid fun W hW => implSub_any b1 x1 y1 b2 x2 y2 W (by omega) (by omega) (by omega) (by omega) (hU.below hW) (hT.below hW) (staysP.below _ _ hP hW)
  have C6 : Hid (∀ (W : World), _) := Lib.hid fun W => specSub_any b1 x1 y1 b2 x2 y2 W (by omega) (by omega) (by omega) (by omega)
  have C7 : Hid (∀ W, Below w.heap.size w W → _) := Lib.hid fun W hW => implDiv_any b1 x1 y1 b2 x2 y2 W (by omega) (by omega) (by omega) (by omega) (hU.below hW) (hT.below hW) (staysP.below _ _ hP hW)
  have C8 : Hid (∀ (W : World), _) := Lib.hid fun W => specDiv_any b1 x1 y1 b2 x2 y2 W (by omega) (by omega) (by omega) (by omega)
  rw [← hcc, ← hcv] at CC CC'
  rw [← hva] at CV CV'
  rw [hAdd] at C1 C2
  rw [hMul] at C3 C4
  rw [hSub] at C5 C6
  rw [hDiv] at C7 C8
  have Hcc := Lib.hid hcc
  have Hcv := Lib.hid hcv
  have HAdd := Lib.hid hAdd
  have HMul := Lib.hid hMul
  have HSub := Lib.hid hSub
  have HDiv := Lib.hid hDiv
  have HU := Lib.hid hU
  have HT := Lib.hid hT
  have HP := Lib.hid hP
  have E0 := Lib.hid e0
  clear hcc hcv hAdd hMul hSub hDiv hva hU hT hP e0
  as_aux_lemma =>
  obtain ⟨a0, a1, a2⟩ := hL.get 1 rfl
  obtain ⟨d0, d1, d2⟩ := hL.get 0 rfl
  go_upto_region 5 with (go_at_call 7; refine (C1.out _ hB).mono ?_; rintro e w1 ⟨rfl, hb1⟩; obtain ⟨hB', hL'⟩ := laid_new #[.bool sb, .string sx, .string sy] hB hL hb1)
  clear hB hL a0 a1 a2 d0 d1 d2 C1 hb1
  obtain ⟨V', hV⟩ : ∃ V, V = w1.alloc (.cells #[.bool sb, .string sx, .string sy] 24) := ⟨_, rfl⟩
  rw [← hV] at hB' hL' ⊢
  clear hV V
  generalize w1.heap.size = GS at hL' ⊢
  clear w1
  obtain ⟨V, rfl⟩ : ∃ V, V = V' := ⟨_, rfl⟩
  have hB := hB'
  have hL := hL'
  clear hB' hL'
  obtain ⟨a0, a1, a2⟩ := hL.get 2 rfl
  obtain ⟨d0, d1, d2⟩ := hL.get 1 rfl
  go_upto_region 6 with (go_at_call 8; refine (C2.out _).mono ?_; rintro e w1 ⟨rfl, hb1⟩; obtain ⟨hB', hL'⟩ := laid_new #[.bool sb, .string sx, .string sy] hB hL hb1)
  clear hB hL a0 a1 a2 d0 d1 d2 C2 hb1
  obtain ⟨V', hV⟩ : ∃ V, V = w1.alloc (.cells #[.bool sb, .string sx, .string sy] 24) := ⟨_, rfl⟩
  rw [← hV] at hB' hL' ⊢
  clear hV V
  generalize w1.heap.size = GT at hL' ⊢
  clear w1
  obtain ⟨V, rfl⟩ : ∃ V, V = V' := ⟨_, rfl⟩
  have hB := hB'
  have hL := hL'
  clear hB' hL'
  as_aux_lemma =>
  obtain ⟨a0, a1, a2⟩ := hL.get 3 rfl
  obtain ⟨d0, d1, d2⟩ := hL.get 2 rfl
  go_upto_region 7 with (go_at_call 9; refine (C3.out _ hB).mono ?_; rintro e w1 ⟨rfl, hb1⟩; obtain ⟨hB', hL'⟩ := laid_new #[.bool pb, .string px, .string py] hB hL hb1)
  clear hB hL a0 a1 a2 d0 d1 d2 C3 hb1
  obtain ⟨V', hV⟩ : ∃ V, V = w1.alloc (.cells #[.bool pb, .string px, .string py] 24) := ⟨_, rfl⟩
  rw [← hV] at hB' hL' ⊢
  clear hV V
  generalize w1.heap.size = GP at hL' ⊢
  clear w1
  obtain ⟨V, rfl⟩ : ∃ V, V = V' := ⟨_, rfl⟩
  have hB := hB'
  have hL := hL'
  clear hB' hL'
  obtain ⟨a0, a1, a2⟩ := hL.get 4 rfl
  obtain ⟨d0, d1, d2⟩ := hL.get 3 rfl
  go_upto_region 8 with (go_at_call 10; refine (C4.out _).mono ?_; rintro e w1 ⟨rfl, hb1⟩; obtain ⟨hB', hL'⟩ := laid_new #[.bool pb, .string px, .string py] hB hL hb1)
  clear hB hL a0 a1 a2 d0 d1 d2 C4 hb1
  obtain ⟨V', hV⟩ : ∃ V, V = w1.alloc (.cells #[.bool pb, .string px, .string py] 24) := ⟨_, rfl⟩
  rw [← hV] at hB' hL' ⊢
  clear hV V
  generalize w1.heap.size = GO at hL' ⊢
  clear w1
  obtain ⟨V, rfl⟩ : ∃ V, V = V' := ⟨_, rfl⟩
  have hB := hB'
  have hL := hL'
  clear hB' hL'
  as_aux_lemma =>
  obtain ⟨a0, a1, a2⟩ := hL.get 5 rfl
  obtain ⟨d0, d1, d2⟩ := hL.get 4 rfl
  go_upto_region 9 with (go_at_call 11; refine (C5.out _ hB).mono ?_; rintro e w1 ⟨rfl, hb1⟩; obtain ⟨hB', hL'⟩ := laid_new #[.bool db, .string dx, .string dy] hB hL hb1)
  clear hB hL a0 a1 a2 d0 d1 d2 C5 hb1
  obtain ⟨V', hV⟩ : ∃ V, V = w1.alloc (.cells #[.bool db, .string dx, .string dy] 24) := ⟨_, rfl⟩
  rw [← hV] at hB' hL' ⊢
  clear hV V
  generalize w1.heap.size = GD at hL' ⊢
  clear w1
  obtain ⟨V, rfl⟩ : ∃ V, V = V' := ⟨_, rfl⟩
  have hB := hB'
  have hL := hL'
  clear hB' hL'
  obtain ⟨a0, a1, a2⟩ := hL.get 6 rfl
  obtain ⟨d0, d1, d2⟩ := hL.get 5 rfl
  go_upto_region 10 with (go_at_call 12; refine (C6.out _).mono ?_; rintro e w1 ⟨rfl, hb1⟩; obtain ⟨hB', hL'⟩ := laid_new #[.bool db, .string dx, .string dy] hB hL hb1)
  clear hB hL a0 a1 a2 d0 d1 d2 C6 hb1
  obtain ⟨V', hV⟩ : ∃ V, V = w1.alloc (.cells #[.bool db, .string dx, .string dy] 24) := ⟨_, rfl⟩
  rw [← hV] at hB' hL' ⊢
  clear hV V
  generalize w1.heap.size = GE at hL' ⊢
  clear w1
  obtain ⟨V, rfl⟩ : ∃ V, V = V' := ⟨_, rfl⟩
  have hB := hB'
  have hL := hL'
  clear hB' hL'
  as_aux_lemma =>
  obtain ⟨a0, a1, a2⟩ := hL.get 7 rfl
  obtain ⟨d0, d1, d2⟩ := hL.get 6 rfl
  go_upto_region 11 with (go_at_call 13; refine (C7.out _ hB).mono ?_; rintro e w1 ⟨rfl, hb1⟩; obtain ⟨hB', hL'⟩ := laid_new #[.bool qb, .string qx, .string qy] hB hL hb1)
  clear hB hL a0 a1 a2 d0 d1 d2 C7 hb1
  obtain ⟨V', hV⟩ : ∃ V, V = w1.alloc (.cells #[.bool qb, .string qx, .string qy] 24) := ⟨_, rfl⟩
  rw [← hV] at hB' hL' ⊢
  clear hV V
  generalize w1.heap.size = GQ at hL' ⊢
  clear w1
  obtain ⟨V, rfl⟩ : ∃ V, V = V' := ⟨_, rfl⟩
  have hB := hB'
  have hL := hL'
  clear hB' hL'
  obtain ⟨a0, a1, a2⟩ := hL.get 8 rfl
  obtain ⟨d0, d1, d2⟩ := hL.get 7 rfl
  go_upto_region 12 with (go_at_call 14; refine (C8.out _).mono ?_; rintro e w1 ⟨rfl, hb1⟩; obtain ⟨hB', hL'⟩ := laid_new #[.bool qb, .string qx, .string qy] hB hL hb1)
  clear hB hL a0 a1 a2 d0 d1 d2 C8 hb1
  obtain ⟨V', hV⟩ : ∃ V, V = w1.alloc (.cells #[.bool qb, .string qx, .string qy] 24) := ⟨_, rfl⟩
  rw [← hV] at hB' hL' ⊢
  clear hV V
  generalize w1.heap.size = GR at hL' ⊢
  clear w1
  obtain ⟨V, rfl⟩ : ∃ V, V = V' := ⟨_, rfl⟩
  have hB := hB'
  have hL := hL'
  clear hB' hL'
  as_aux_lemma =>
  obtain ⟨a0, a1, a2⟩ := hL.get 9 rfl
  obtain ⟨d0, d1, d2⟩ := hL.get 8 rfl
  go_upto_region 13 with (go_at_call 15; refine (CC.out _ hB).mono ?_; rintro e w1 ⟨rfl, hb1⟩)
  have hL1 := hL.below hb1
  have hB1 := hB.trans (hb1.mono hB.size)
  clear hB hL a0 a1 a2 d0 d1 d2 CC hb1 V
  obtain ⟨a0, a1, a2⟩ := hL1.get 9 rfl
  obtain ⟨d0, d1, d2⟩ := hL1.get 8 rfl
  go_upto_region 14 with (go_at_call 16; refine (CC'.out _).mono ?_; rintro e V ⟨rfl, hb1⟩)
  have hL := hL1.below hb1
  have hB := hB1.trans (hb1.mono hB1.size)
  clear hB1 hL1 a0 a1 a2 d0 d1 d2 CC' hb1 w1
  have esc : (!sc == sc) = false := by cases sc <;> rfl
  have epc : (!pc == pc) = false := by cases pc <;> rfl
  have edc : (!dc == dc) = false := by cases dc <;> rfl
  have eqc : (!qc == qc) = false := by cases qc <;> rfl
  have ecv : (!cv == cv) = false := by cases cv <;> rfl
  have eva : (!va == va) = false := by cases va <;> rfl
  as_aux_lemma =>
  go_cut [164] (fun s164 wx => s164 = .bool false ∧ Below V.heap.size V wx)
  case first =>
    as_aux_lemma =>
    go_region_held3 (fun w' => w'.cell? ⟨GR, 0, none⟩ = some (.bool qb) ∧ w'.cell? ⟨GR, 1, none⟩ = some (.string qx) ∧ w'.cell? ⟨GR, 2, none⟩ = some (.string qy) ∧ w'.cell? ⟨GQ, 0, none⟩ = some (.bool qb) ∧ w'.cell? ⟨GQ, 1, none⟩ = some (.string qx) ∧ w'.cell? ⟨GQ, 2, none⟩ = some (.string qy) ∧ w'.cell? ⟨GE, 0, none⟩ = some (.bool db) ∧ w'.cell? ⟨GE, 1, none⟩ = some (.string dx) ∧ w'.cell? ⟨GE, 2, none⟩ = some (.string dy) ∧ w'.cell? ⟨GD, 0, none⟩ = some (.bool db) ∧ w'.cell? ⟨GD, 1, none⟩ = some (.string dx) ∧ w'.cell? ⟨GD, 2, none⟩ = some (.string dy) ∧ w'.cell? ⟨GO, 0, none⟩ = some (.bool pb) ∧ w'.cell? ⟨GO, 1, none⟩ = some (.string px) ∧ w'.cell? ⟨GO, 2, none⟩ = some (.string py) ∧ w'.cell? ⟨GP, 0, none⟩ = some (.bool pb) ∧ w'.cell? ⟨GP, 1, none⟩ = some (.string px) ∧ w'.cell? ⟨GP, 2, none⟩ = some (.string py) ∧ w'.cell? ⟨GT, 0, none⟩ = some (.bool sb) ∧ w'.cell? ⟨GT, 1, none⟩ = some (.string sx) ∧ w'.cell? ⟨GT, 2, none⟩ = some (.string sy) ∧ w'.cell? ⟨GS, 0, none⟩ = some (.bool sb) ∧ w'.cell? ⟨GS, 1, none⟩ = some (.string sx) ∧ w'.cell? ⟨GS, 2, none⟩ = some (.string sy) ∧ w'.cell? ⟨GB, 0, none⟩ = some (.bool b2) ∧ w'.cell? ⟨GB, 1, none⟩ = some (.string x2) ∧ w'.cell? ⟨GB, 2, none⟩ = some (.string y2) ∧ w'.cell? ⟨GA, 0, none⟩ = some (.bool b1) ∧ w'.cell? ⟨GA, 1, none⟩ = some (.string x1) ∧ w'.cell? ⟨GA, 2, none⟩ = some (.string y1) ∧ Below V.heap.size V w')
      ((refine hold30 hL ?_; first | exact (Below.refl _ V).drew | (refine below_step (hold30_below (by assumption)) ?_; assumption)))
      (first
        | (go_at_call 17; refine (CV.out _ (hB.trans ((hold30_below (by assumption)).mono hB.size))).mono ?_; rintro e w2 ⟨rfl, hb2⟩)
        | (go_at_call 18; refine (CV'.out _).mono ?_; rintro e w3 ⟨rfl, hb3⟩))
    all_goals go_wp2_with fail
    all_goals go_meet
    all_goals exact ⟨rfl, hold30_below (by assumption)⟩
  obtain ⟨rfl, hb⟩ := hcut
  replace hL := hL.below hb
  replace hB := hB.trans (hb.mono hB.size)
  clear hb CV CV' esc epc edc eqc ecv eva

  as_aux_lemma =>
  go_upto_if 165 with fail
  go_cut [] (fun wx => Below w.heap.size w wx ∧ Boxes wx [(GR, #[.bool qb, .string qx, .string qy]), (GQ, #[.bool qb, .string qx, .string qy]), (GE, #[.bool db, .string dx, .string dy]), (GD, #[.bool db, .string dx, .string dy]), (GO, #[.bool pb, .string px, .string py]), (GP, #[.bool pb, .string px, .string py]), (GT, #[.bool sb, .string sx, .string sy]), (GS, #[.bool sb, .string sx, .string sy]), (GB, #[.bool b2, .string x2, .string y2]), (GA, #[.bool b1, .string x1, .string y1])])
  case first =>
    as_aux_lemma =>
    cases sc
    case false =>
      as_aux_lemma =>
      go_wp2_with fail
      go_meet
      exact ⟨hB, hL⟩
    case true =>
      as_aux_lemma =>
      have hAdd := HAdd.out
      have hU := HU.out
      have hT := HT.out
      have hP := HP.out
      obtain ⟨z1, z2⟩ := opRes_short hAdd
      have K1 : Hid (∀ W, Below w.heap.size w W → _) := Lib.hid fun W hW => implAdd_any b2 x2 y2 b1 x1 y1 W (by omega) (by omega) (by omega) (by omega) (hU.below hW) (hT.below hW) (staysP.below _ _ hP hW)
      rw [addRes_comm, hAdd] at K1
      have K2 : Hid (∀ W, Below w.heap.size w W → _) := Lib.hid fun W hW => implSub_any sb sx sy b2 x2 y2 W (by omega) (by omega) (by omega) (by omega) (hU.below hW) (hT.below hW) (staysP.below _ _ hP hW)
      rw [sub_back hAdd] at K2
      clear hAdd hU hT hP
      obtain ⟨d0, d1, d2⟩ := hL.get 8 rfl
      obtain ⟨a0, a1, a2⟩ := hL.get 9 rfl
      go_upto_region 18 with (go_at_call 7; refine (K1.out _ hB).mono ?_; rintro e w1 ⟨rfl, hb1⟩; obtain ⟨hBy, hLy⟩ := laid_new #[.bool sb, .string sx, .string sy] hB hL hb1)
      clear d0 d1 d2 a0 a1 a2 hb1 K1
      obtain ⟨Vy, hV⟩ : ∃ V, V = w1.alloc (.cells #[.bool sb, .string sx, .string sy] 24) := ⟨_, rfl⟩
      rw [← hV] at hBy hLy ⊢
      clear hV
      generalize w1.heap.size = GX at hLy ⊢
      clear w1
      obtain ⟨s0, s1, s2⟩ := hLy.get 8 rfl
      obtain ⟨d0, d1, d2⟩ := hLy.get 9 rfl
      go_upto_region 19 with (go_at_call 11; refine (K2.out _ hBy).mono ?_; rintro e w1 ⟨rfl, hb1⟩; obtain ⟨hBz, hLz⟩ := laid_new #[.bool b1, .string x1, .string y1] hBy hLy hb1)
      clear s0 s1 s2 d0 d1 d2 hb1 K2
      obtain ⟨Vz, hV⟩ : ∃ V, V = w1.alloc (.cells #[.bool b1, .string x1, .string y1] 24) := ⟨_, rfl⟩
      rw [← hV] at hBz hLz ⊢
      clear hV
      generalize w1.heap.size = GY at hLz ⊢
      clear w1
      obtain ⟨x0, x1, x2⟩ := hLz.get 1 rfl
      obtain ⟨y0, y1, y2⟩ := hLz.get 0 rfl
      obtain ⟨s0, s1, s2⟩ := hLz.get 9 rfl
      obtain ⟨a0, a1, a2⟩ := hLz.get 11 rfl
      go_wp2_with fail
      go_meet
      exact ⟨hBz, hLz.tail.tail⟩
  clear hB hL
  obtain ⟨hB, hL⟩ := hcut

  as_aux_lemma =>
  go_upto_if 194 with fail
  go_cut [] (fun wx => Below w.heap.size w wx ∧ Boxes wx [(GR, #[.bool qb, .string qx, .string qy]), (GQ, #[.bool qb, .string qx, .string qy]), (GE, #[.bool db, .string dx, .string dy]), (GD, #[.bool db, .string dx, .string dy]), (GO, #[.bool pb, .string px, .string py]), (GP, #[.bool pb, .string px, .string py]), (GT, #[.bool sb, .string sx, .string sy]), (GS, #[.bool sb, .string sx, .string sy]), (GB, #[.bool b2, .string x2, .string y2]), (GA, #[.bool b1, .string x1, .string y1])])
  case first =>
    as_aux_lemma =>
    cases pc
    case false =>
      as_aux_lemma =>
      go_wp2_with fail
      go_meet
      exact ⟨hB, hL⟩
    case true =>
      as_aux_lemma =>
      have hMul := HMul.out
      have hU := HU.out
      have hT := HT.out
      have hP := HP.out
      have K1 : Hid (∀ W, Below w.heap.size w W → _) := Lib.hid fun W hW => implMul_any b2 x2 y2 b1 x1 y1 W (by omega) (by omega) (by omega) (by omega) (hU.below hW) (hT.below hW) (staysP.below _ _ hP hW)
      rw [mulRes_comm, hMul] at K1
      clear hMul hU hT hP
      obtain ⟨d0, d1, d2⟩ := hL.get 8 rfl
      obtain ⟨a0, a1, a2⟩ := hL.get 9 rfl
      go_upto_region 23 with (go_at_call 9; refine (K1.out _ hB).mono ?_; rintro e w1 ⟨rfl, hb1⟩; obtain ⟨hBz, hLz⟩ := laid_new #[.bool pb, .string px, .string py] hB hL hb1)
      clear d0 d1 d2 a0 a1 a2 hb1 K1
      obtain ⟨Vz, hV⟩ : ∃ V, V = w1.alloc (.cells #[.bool pb, .string px, .string py] 24) := ⟨_, rfl⟩
      rw [← hV] at hBz hLz ⊢
      clear hV
      generalize w1.heap.size = GX at hLz ⊢
      clear w1
      obtain ⟨x0, x1, x2⟩ := hLz.get 0 rfl
      obtain ⟨s0, s1, s2⟩ := hLz.get 6 rfl
      go_wp2_with fail
      go_meet
      exact ⟨hBz, hLz.tail⟩
  clear hB hL
  obtain ⟨hB, hL⟩ := hcut

  as_aux_lemma =>
  go_upto_if 208 with fail
  go_cut [] (fun wx => Below w.heap.size w wx ∧ Boxes wx [(GR, #[.bool qb, .string qx, .string qy]), (GQ, #[.bool qb, .string qx, .string qy]), (GE, #[.bool db, .string dx, .string dy]), (GD, #[.bool db, .string dx, .string dy]), (GO, #[.bool pb, .string px, .string py]), (GP, #[.bool pb, .string px, .string py]), (GT, #[.bool sb, .string sx, .string sy]), (GS, #[.bool sb, .string sx, .string sy]), (GB, #[.bool b2, .string x2, .string y2]), (GA, #[.bool b1, .string x1, .string y1])])
  case first =>
    as_aux_lemma =>
    cases qc
    case false =>
      as_aux_lemma =>
      go_wp2_with fail
      go_meet
      exact ⟨hB, hL⟩
    case true =>
      as_aux_lemma =>
      have hDiv := HDiv.out
      have hU := HU.out
      have hT := HT.out
      have hP := HP.out
      obtain ⟨z1, z2⟩ := divRes_short hDiv
      have K1 : Hid (∀ W, Below w.heap.size w W → _) := Lib.hid fun W hW => implMul_any qb qx qy b2 x2 y2 W (by omega) (by omega) (by omega) (by omega) (hU.below hW) (hT.below hW) (staysP.below _ _ hP hW)
      rw [mul_back hDiv] at K1
      clear hDiv hU hT hP
      obtain ⟨q0, q1, q2⟩ := hL.get 1 rfl
      obtain ⟨d0, d1, d2⟩ := hL.get 8 rfl
      go_upto_region 27 with (go_at_call 9; refine (K1.out _ hB).mono ?_; rintro e w1 ⟨rfl, hb1⟩; obtain ⟨hBz, hLz⟩ := laid_new #[.bool b1, .string x1, .string y1] hB hL hb1)
      clear q0 q1 q2 d0 d1 d2 hb1 K1
      obtain ⟨Vz, hV⟩ : ∃ V, V = w1.alloc (.cells #[.bool b1, .string x1, .string y1] 24) := ⟨_, rfl⟩
      rw [← hV] at hBz hLz ⊢
      clear hV
      generalize w1.heap.size = GX at hLz ⊢
      clear w1
      obtain ⟨x0, x1, x2⟩ := hLz.get 0 rfl
      obtain ⟨a0, a1, a2⟩ := hLz.get 10 rfl
      go_wp2_with fail
      go_meet
      exact ⟨hBz, hLz.tail⟩
  clear hB hL
  obtain ⟨hB, hL⟩ := hcut

  as_aux_lemma =>
  go_upto_if 222 with fail
  cases dc
  case false =>
    go_wp2_with fail
    go_ret
    exact ⟨rfl, hB⟩
  case true =>
    have hSub := HSub.out
    have hU := HU.out
    have hT := HT.out
    have hP := HP.out
    obtain ⟨z1, z2⟩ := opRes_short hSub
    obtain ⟨hv, hv2, hc⟩ := cmp_back hSub
    obtain rfl : cv = true := Hcv.out.trans hv
    have zz : (dec 0).size ≤ 120 ∧ (dec 1).size ≤ 120 := by
      rw [dec_size, dec_size, decL_small 0 (by omega), decL_small 1 (by omega)]
      decide
    obtain ⟨z3, z4⟩ := zz
    have K1 : Hid (∀ W, Below w.heap.size w W → _) := Lib.hid fun W hW => implRatOf_any 0 1 W ⟨hT.below hW, staysP.below _ _ hP hW⟩ (by omega) (by omega) (by omega) (by omega) (by omega)
    rw [ratOf_zero] at K1
    have K2 : Hid (∀ W, Below w.heap.size w W → _) := Lib.hid fun W hW => implCompare_any db dx dy false (dec 0) (dec 1) W (by omega) (by omega) (by omega) (by omega) (hU.below hW) (hT.below hW)
    rw [hc, hv2, ← Hcc.out] at K2
    clear hv hv2 hc hSub hU hT hP
    go_upto_region 31 with (go_at_call 19; refine (K1.out _ hB).mono ?_; rintro e w1 ⟨rfl, hb1⟩; obtain ⟨hBy, hLy⟩ := laid_new #[.bool false, .string (dec 0), .string (dec 1)] hB hL hb1)
    clear hb1 K1
    obtain ⟨Vy, hV⟩ : ∃ V, V = w1.alloc (.cells #[.bool false, .string (dec 0), .string (dec 1)] 24) := ⟨_, rfl⟩
    rw [← hV] at hBy hLy ⊢
    clear hV
    generalize w1.heap.size = GX at hLy ⊢
    clear w1
    obtain ⟨z0, z1', z2'⟩ := hLy.get 0 rfl
    obtain ⟨d0, d1, d2⟩ := hLy.get 4 rfl
    go_wp2_with (go_at_call 15; refine (K2.out _ hBy).mono ?_; rintro e w1 ⟨rfl, hb1⟩)
    go_ret
    exact ⟨by simp, hBy.trans (hb1.mono hBy.size)⟩

end Go.Proofs.YtmmonglcbkefmaaGreatDoor
