/-
  The program's search for the variables of an expression. (Written by gen_pgback.py.)
-/
import Derived.Test.YtdeilceakhgjlaaGreatPgBk
import Derived.Test.YtdeilceakhgjlaaGreatPgVoA
import Derived.Shelf.Abstract
namespace Go.Proofs.YtdeilceakhgjlaaGreat
open Go.RowKit Num Go.Shelf

attribute [local go_sem] Oper.semAt_some

/-- One expression, from the last to the first: the marks and the variables. -/
def sL (X : Nat → Nat → Int) (n : Nat) (xs : List Nat) : (Nat → Bool) × (Nat → Bool) :=
  xs.foldl (fun s i => (stepU X i s.1, if s.1 i = true ∧ X i 0 = 2 then setU s.2 (X i 3).toNat else s.2)) (fun j => j == n - 1, fun _ => false)
theorem sL_snoc (X : Nat → Nat → Int) (n : Nat) (xs : List Nat) (i : Nat) : sL X n (xs ++ [i]) = (stepU X i (sL X n xs).1, if (sL X n xs).1 i = true ∧ X i 0 = 2 then setU (sL X n xs).2 (X i 3).toNat else (sL X n xs).2) := by
  rw [sL, List.foldl_append]; rfl
theorem sL_downto (X : Nat → Nat → Int) (n : Nat) : ∀ k, sL X n (downto n k) = (pt X (n - 1) k, vI X (n - 1) k)
  | 0 => rfl
  | k + 1 => by rw [downto_succ, sL_snoc, sL_downto X n k, pt, vI]
/-- The state of the search in memory. -/
def OccI (X : Nat → Nat → Int) (n GV GN Bt Bn b off cap : Nat) (w : World) (pre : List (Ix n)) (W : World) : Prop :=
  ((∃ cs, Box W GN 4 cs ∧ BoolsC cs n (sL X n (pre.map (fun x : Ix n => x.1))).1) ∧ (∃ vs, Box W GV 125 vs ∧ BoolsC vs 5 (sL X n (pre.map (fun x : Ix n => x.1))).2) ∧
    Box W Bt 64 #[.slice (some ⟨GN, 0, none⟩) n n] ∧ Box W Bn 34 #[.slice (some ⟨b, off, none⟩) n cap]) ∧ Below w.heap.size w W
theorem box_own {Wa Wb : World} {row : Option Nat} {g B0 : Nat} {t : TypeId} {cs : Array Value} (h : Box Wa g t cs) (hg : Wa.grownBy Wb row) (hr : ∀ r, row = some r → B0 ≤ r ∧ ∃ o : Obj, Wa.heap[r]? = some o ∧ o.isCells = false) : Box Wb g t cs := by
  have hne : some g ≠ row := by
    intro e
    obtain ⟨_, o, ho, hcl⟩ := hr g e.symm
    have h' : Wa.heap[g]? = some (.cells cs t) := h
    rw [h'] at ho
    cases ho
    cases hcl
  exact (hg.block g h.lt hne).trans h
theorem occ_own (X : Nat → Nat → Int) (n GV GN Bt Bn b off cap : Nat) (w : World) (B0 : Nat) (hB : w.heap.size ≤ B0) : OwnFrom B0 (OccI X n GV GN Bt Bn b off cap w) := by
  rintro s Wa Wb row ⟨⟨⟨cs, h1, h2⟩, ⟨vs, h3, h4⟩, h5, h6⟩, h7⟩ hg hr
  refine ⟨⟨⟨cs, box_own h1 hg hr, h2⟩, ⟨vs, box_own h3 hg hr, h4⟩, box_own h5 hg hr, box_own h6 hg hr⟩, h7.grown hg h7.size fun k e => ?_⟩
  exact Nat.le_trans hB (hr k e).1

theorem occ_post {X : Nat → Nat → Int} {n GV GN Bt Bn b off cap B0 : Nat} {w W W' : World} {pre xs : List (Ix n)} (hI : OccI X n GV GN Bt Bn b off cap w pre W) (hI' : OccI X n GV GN Bt Bn b off cap w xs W') (hk : KeepsOthers W W') (hB : Below w.heap.size W W') : KeepsFrom B0 W W' ∧ Kept Bn w.heap.size W W' ∧ OccI X n GV GN Bt Bn b off cap w xs W' :=
  ⟨hk.from _, ⟨hB, fun _ e => (hI'.1.2.2.2.cell 0).trans ((hI.1.2.2.2.cell 0).symm.trans e)⟩, hI'⟩

set_option maxRecDepth 100000 in
set_option maxHeartbeats 4000000 in
theorem occ_in (b off cap n m : Nat) (X : Nat → Nat → Int) (w : World) (hx : exsOk X m n = true) (hm : m ≤ 5) (hn0 : 0 < n) (hn : n ≤ 40) (hb : b < w.heap.size) (hc : ∀ j, j < n → ∀ c, c < 4 → w.cell? ⟨b, off + (j * 4 + c), none⟩ = some (.int .i64 (X j c))) :
    CallsIn Fence.wide 5 Tryz.prog 125 #[.slice (some ⟨b, off, none⟩) n cap] w fun e W' => ∃ A1 c1, e = .returned (.slice A1 (ups (vI X (n - 1) n) 5).length c1) ∧ LsAt w.heap.size W' A1 (ups (vI X (n - 1) n) 5) ∧ Below w.heap.size w W' := by
  obtain ⟨w0, hw0⟩ : ∃ w0, w0 = w.alloc (.cells #[.bool false, .bool false, .bool false, .bool false, .bool false] 125) := ⟨_, rfl⟩
  have hmk := mk_bool n (by omega)
  have wn : IntKind.i64.wrap ((n : Int) - 1) = ((n - 1 : Nat) : Int) := by rw [IntWalk.i64_in _ (by omega)]; omega
  have i1 : ((n - 1 : Nat) : Int) < (n : Int) := by omega
  have i0 : (0 : Int) ≤ ((n - 1 : Nat) : Int) := by omega
  have hz0 : w0.heap.size = w.heap.size + 1 := by rw [hw0]; simp
  obtain ⟨w1, hw1⟩ : ∃ w1, w1 = w0.alloc (.cells (madeCells #[.bool false] n) 4) := ⟨_, rfl⟩
  have hz1 : w1.heap.size = w.heap.size + 1 + 1 := by rw [hw1, World.size_alloc, hz0]
  have hX : Box w1 (w.heap.size + 1) 4 (madeCells #[.bool false] n) := by rw [hw1, ← hz0]; exact Box.new w0 _ _
  obtain ⟨w2, hw2⟩ : ∃ w2, w2 = w1.alloc (.cells #[.slice (some ⟨w.heap.size + 1, 0, none⟩) n n] 64) := ⟨_, rfl⟩
  have hX2 : Box w2 (w.heap.size + 1) 4 (madeCells #[.bool false] n) := by rw [hw2]; exact hX.alloc _
  have hT2 : Box w2 (w.heap.size + 1 + 1) 64 #[.slice (some ⟨w.heap.size + 1, 0, none⟩) n n] := by rw [hw2, ← hz1]; exact Box.new w1 _ _
  have hV0 : Box w0 w.heap.size 125 #[.bool false, .bool false, .bool false, .bool false, .bool false] := by rw [hw0]; exact Box.new w _ _
  have hV2 : Box w2 w.heap.size 125 #[.bool false, .bool false, .bool false, .bool false, .bool false] := by rw [hw2, hw1]; exact (hV0.alloc _).alloc _
  have hB2 : Below w.heap.size w w2 := by rw [hw2, hw1, hw0]; exact (((Below.refl _ w).alloc (Nat.le_refl _) _).alloc (by simp) _).alloc (by simp; omega) _
  have k0 := (BoolsC.falses n).at_ hX2 (show n - 1 < n by omega)
  have f0 := hX2.free (n - 1)
  have t0 := hT2.cell 0
  have ft := hT2.free 0
  obtain ⟨u1, hu1⟩ : ∃ u1, u1 = w0.alloc (.cells ((madeCells #[.bool false] n).setIfInBounds (n - 1) (.bool true)) 4) := ⟨_, rfl⟩
  have hy1 : u1.heap.size = w.heap.size + 1 + 1 := by rw [hu1, World.size_alloc, hz0]
  have hX1 : Box u1 (w.heap.size + 1) 4 ((madeCells #[.bool false] n).setIfInBounds (n - 1) (.bool true)) := by rw [hu1, ← hz0]; exact Box.new w0 _ _
  obtain ⟨w3, hw3⟩ : ∃ w3, w3 = u1.alloc (.cells #[.slice (some ⟨w.heap.size + 1, 0, none⟩) n n] 64) := ⟨_, rfl⟩
  have hX3 : Box w3 (w.heap.size + 1) 4 ((madeCells #[.bool false] n).setIfInBounds (n - 1) (.bool true)) := by rw [hw3]; exact hX1.alloc _
  have hT3 : Box w3 (w.heap.size + 1 + 1) 64 #[.slice (some ⟨w.heap.size + 1, 0, none⟩) n n] := by rw [hw3, ← hy1]; exact Box.new u1 _ _
  have hV3 : Box w3 w.heap.size 125 #[.bool false, .bool false, .bool false, .bool false, .bool false] := by rw [hw3, hu1]; exact (hV0.alloc _).alloc _
  have hB3 : Below w.heap.size w w3 := by rw [hw3, hu1, hw0]; exact (((Below.refl _ w).alloc (Nat.le_refl _) _).alloc (by simp) _).alloc (by simp; omega) _
  have hz3 : w3.heap.size = w.heap.size + 1 + 1 + 1 := by rw [hw3, World.size_alloc, hy1]
  obtain ⟨w4, hw4⟩ : ∃ w4, w4 = w3.alloc (.cells #[.slice (some ⟨b, off, none⟩) n cap] 34) := ⟨_, rfl⟩
  have hN4 : Box w4 (w.heap.size + 1 + 1 + 1) 34 #[.slice (some ⟨b, off, none⟩) n cap] := by rw [hw4, ← hz3]; exact Box.new w3 _ _
  have hX4 := hX3.alloc (.cells #[.slice (some ⟨b, off, none⟩) n cap] 34)
  have hT4 := hT3.alloc (.cells #[.slice (some ⟨b, off, none⟩) n cap] 34)
  have hV4 := hV3.alloc (.cells #[.slice (some ⟨b, off, none⟩) n cap] 34)
  have hB4 := hB3.alloc hB3.size (.cells #[.slice (some ⟨b, off, none⟩) n cap] 34)
  rw [← hw4] at hX4 hT4 hV4 hB4
  have hc4 : ∀ j, j < n → ∀ c, c < 4 → w4.cell? ⟨b, off + (j * 4 + c), none⟩ = some (.int .i64 (X j c)) := fun j hj c hc' => (hB4.cell (p := ⟨b, off + (j * 4 + c), none⟩) hb).trans (hc j hj c hc')
  have hst4 : OccI X n w.heap.size (w.heap.size + 1) (w.heap.size + 1 + 1) (w.heap.size + 1 + 1 + 1) b off cap w [] w4 := ⟨⟨⟨_, hX4, ((BoolsC.falses n).put (show n - 1 < n by omega)).congr fun j _ => by simp [setU, sL]⟩, ⟨_, hV4, ⟨rfl, fun j hj => by
    match j, hj with
    | 0, _ => rfl
    | 1, _ => rfl
    | 2, _ => rfl
    | 3, _ => rfl
    | 4, _ => rfl⟩⟩, hT4, hN4⟩, hB4⟩
  rw [hw2, hw1, hw0] at k0 f0
  clear t0 ft hX hX2 hT2 hV0 hV2 hB2 hX1 hX3 hT3 hV3 hB3 hX4 hT4 hV4
  have HX := Lib.hid hx
  clear hx hc
  refine callsIn_of_wp_marks Tryz.func125 rfl trivial ?_ rfl
  simp only [Tryz.ntmps125, List.size_toArray, List.length_cons, List.length_nil, Nat.reduceAdd, Nat.reduceSub, Array.replicate_succ, Array.replicate_zero, List.push_toArray, List.append_toArray, List.nil_append, List.cons_append]
  gi_wp2_with fail
  refine ⟨trivial, ?_⟩
  refine (back_in Fence.wide _ trivial rfl _ _ _ _).mono ?_
  rintro e w' ⟨rfl, rfl⟩
  rw [← hw0, ← hu1, ← hw3, ← hw4]
  have hs4 : w4.heap.size = w.heap.size + 1 + 1 + 1 + 1 := by rw [hw4, World.size_alloc, hz3]
  have HC4 := Lib.hid hc4
  clear k0 f0 hmk hw0 hw1 hw2 hw3 hw4 hz0 hz1 hy1 hu1 wn i0 i1 hc4
  rw [hz3]
  clear hz3
  gi_wp2_with fail
  refine wpIn_rangeFunc_ownH rfl (by omega) (gf := 211) (lb := _) rfl trivial (enters_of Tryz.func211 (by kernel_rfl) rfl)
    (back_stops Fence.wide (5 - 1) trivial rfl (by omega) _ w.heap.size b off n cap X (by omega) w4 (by omega) (by omega) hb (hN4.cell 0) HC4.out) Kept.trans (Kept.put (by omega) (by omega)) (Below.refl _ _) (fun _ => rfl)
    (OccI X n w.heap.size (w.heap.size + 1) (w.heap.size + 1 + 1) (w.heap.size + 1 + 1 + 1) b off cap w)
    (fun _ _ _ => False)
    (occ_own X n _ _ _ _ b off cap w _ (by omega))
    (fun _ _ _ _ _ hs _ _ => hs)
    hst4
    (fun x a' W => ∃ B, w4.heap.size ≤ B ∧ Box W B 152 #[.int .i64 (X x.1 0), .int .i64 (X x.1 1), .int .i64 (X x.1 2), .int .i64 (X x.1 3)] ∧ a' = { tmps := #[.slice (some ⟨b, off, none⟩) n cap, undef, .slice none 0 0, .pointer (some ⟨w.heap.size, 0, none⟩), .pointer (some ⟨w.heap.size + 1 + 1, 0, none⟩), .int .i64 (x.1 : Nat), .pointer (some ⟨B, 0, none⟩), .slice (some ⟨b, off, none⟩) n cap, .int .i64 (n : Nat), .slice (some ⟨w.heap.size + 1, 0, none⟩) n n, .slice (some ⟨w.heap.size + 1, 0, none⟩) n n, .slice (some ⟨b, off, none⟩) n cap, .int .i64 (n : Nat), .int .i64 ((n - 1 : Nat) : Int), .pointer (some ⟨w.heap.size + 1, n - 1, none⟩), .slice (some ⟨b, off, none⟩) n cap, .func (.func 211) #[] #[.pointer (some ⟨w.heap.size + 1 + 1 + 1, 0, none⟩)], .int .i64 (x.1 : Nat), .agg #[.int .i64 (X x.1 0), .int .i64 (X x.1 1), .int .i64 (X x.1 2), .int .i64 (X x.1 3)], undef, undef, undef, undef, undef, undef, undef, undef, undef, undef, undef, undef, undef, undef, undef, undef, undef, undef, undef, undef, undef, undef, undef, undef, undef, undef], defers := [] })
    ?ax ?assign ?body ?done ?stop
  case ax =>
    rintro x a' s Wa Wb row ⟨B, h1, h2, h3⟩ hg hr
    exact ⟨B, h1, box_own h2 hg hr, h3⟩
  case assign =>
    intro l pre x W K hI hK
    simp only [encX]
    gi_wp2
    refine hK _ _ ?_ ?_ ?_ ⟨_, ?_, Box.new W _ _, rfl⟩
    · exact (KeepsOthers.alloc W _).from _
    · exact ⟨(Below.refl _ W).alloc (by have := hI.2.size; omega) _, fun v e => ((Below.refl W.heap.size W).alloc (Nat.le_refl _) _).cell (p := ⟨w.heap.size + 1 + 1 + 1, 0, none⟩) (by have := hI.1.2.2.2.lt; simpa using this) |>.trans e⟩
    · obtain ⟨⟨⟨cs, h1, h2⟩, ⟨vs, h3, h4⟩, h5, h6⟩, h7⟩ := hI
      exact ⟨⟨⟨cs, h1.alloc _, h2⟩, ⟨vs, h3.alloc _, h4⟩, h5.alloc _, h6.alloc _⟩, h7.alloc h7.size _⟩
    · have := hI.1.2.2.2.lt
      omega
  case body =>
    rintro l pre ⟨i, hi⟩ a' W hl hlr hI ⟨B, hBs, hE, rfl⟩ hlen
    have HI := Lib.hid hI
    obtain ⟨⟨⟨cs, hG, hcs⟩, ⟨vs, hV, hvs⟩, hT, hN⟩, hbel⟩ := hI
    obtain ⟨s, hs⟩ : ∃ s, s = sL X n (pre.map (fun x : Ix n => x.1)) := ⟨_, rfl⟩
    have hsn : ∀ u v, stepU X i s.1 = u → (if s.1 i = true ∧ X i 0 = 2 then setU s.2 (X i 3).toNat else s.2) = v → sL X n ((pre ++ [(⟨i, hi⟩ : Ix n)]).map (fun x : Ix n => x.1)) = (u, v) := by
      rintro u v rfl rfl
      rw [List.map_append, List.map_cons, List.map_nil, sL_snoc, ← hs]
    rw [← hs] at hcs hvs
    have HE := Lib.hid hE
    have hii : (i : Int) < (n : Int) := by omega
    have k0 := hcs.at_ hG hi
    have t0 := hT.cell 0
    have e0 := hE.cell 0
    have hbel0 := hbel.size
    have nBG : w.heap.size + 1 ≠ B := by omega
    have nBV : w.heap.size ≠ B := by omega
    have nVG : w.heap.size + 1 ≠ w.heap.size := by omega
    have nTG : w.heap.size + 1 ≠ w.heap.size + 1 + 1 := by omega
    have nNG : w.heap.size + 1 ≠ w.heap.size + 1 + 1 + 1 := by omega
    have nTV : w.heap.size ≠ w.heap.size + 1 + 1 := by omega
    have nNV : w.heap.size ≠ w.heap.size + 1 + 1 + 1 := by omega
    have nGV : w.heap.size ≠ w.heap.size + 1 := by omega
    have HG := Lib.hid hG
    have HV := Lib.hid hV
    have HT := Lib.hid hT
    have HN := Lib.hid hN
    have Hl := Lib.hid (And.intro hl hlr)
    have Hs := Lib.hid hs
    have Hsn := Lib.hid hsn
    have Hcs := Lib.hid hcs
    have Hvs := Lib.hid hvs
    have Hbel := Lib.hid hbel
    clear hE hG hV hT hN hl hlr hbel hbel0 hst4 hN4 hB4 hs hcs hvs hsn hlen
    cases hu : s.1 i with
    | false =>
      rw [hu] at k0
      gi_wp2
      refine occ_post HI.out ?_ (KeepsOthers.refl _) (Below.refl _ _)
      refine ⟨⟨⟨cs, HG.out, ?_⟩, ⟨vs, HV.out, ?_⟩, HT.out, HN.out⟩, Hbel.out⟩
      · rw [Hsn.out s.1 s.2 (by rw [stepU, if_neg (by rw [hu]; simp)]) (if_neg (by rw [hu]; simp))]; exact Hcs.out
      · rw [Hsn.out s.1 s.2 (by rw [stepU, if_neg (by rw [hu]; simp)]) (if_neg (by rw [hu]; simp))]; exact Hvs.out
    | true =>
      rw [hu] at k0
      by_cases h1 : X i 0 = 1
      · have o1 : (X i 0 == 1) = true := by rw [h1]; rfl
        have HS := Lib.hid (Hsn.out s.1 s.2 (by rw [stepU, if_neg (by rw [h1]; simp)]) (if_neg (by rw [h1]; simp)))
        clear h1 hu
        gi_wp2
        refine occ_post HI.out ?_ (KeepsOthers.refl _) (Below.refl _ _)
        refine ⟨⟨⟨cs, HG.out, ?_⟩, ⟨vs, HV.out, ?_⟩, HT.out, HN.out⟩, Hbel.out⟩
        · rw [HS.out]; exact Hcs.out
        · rw [HS.out]; exact Hvs.out
      · have o1 : (X i 0 == 1) = false := beq_eq_false_iff_ne.2 h1
        by_cases h2 : X i 0 = 2
        · have o2 : (X i 0 == 2) = true := by rw [h2]; rfl
          have hox := exsOk_in HX.out hi
          rw [exOk, if_neg h1, if_pos h2, decide_eq_true_eq] at hox
          obtain ⟨v, hv⟩ : ∃ v : Nat, X i 3 = (v : Int) := ⟨(X i 3).toNat, by omega⟩
          have hv5 : v < 5 := by omega
          have hvi : (v : Int) < 5 := by omega
          have e3 := HE.out.cell 3
          rw [hv] at e3
          have fv := HV.out.free v
          have kv := Hvs.out.at_ HV.out hv5
          have HS := Lib.hid (Hsn.out s.1 (setU s.2 v) (by rw [stepU, if_neg (by rw [h2]; simp)]) (by rw [if_pos ⟨hu, h2⟩, hv, Int.toNat_natCast]))
          clear h1 h2 hox hu
          gi_wp2
          refine occ_post HI.out ?_ (KeepsOthers.setCell _ _ _) ((Below.refl _ _).setCell (p := ⟨w.heap.size, v, none⟩) (Nat.le_refl _) _)
          refine ⟨⟨⟨cs, HG.out.far nGV _ _, ?_⟩, ⟨_, HV.out.set _ _, ?_⟩, HT.out.far nTV _ _, HN.out.far nNV _ _⟩, Hbel.out.setCell (p := ⟨w.heap.size, v, none⟩) (Nat.le_refl _) _⟩
          · rw [HS.out]; exact Hcs.out
          · rw [HS.out]; exact Hvs.out.put hv5
        · have o2 : (X i 0 == 2) = false := beq_eq_false_iff_ne.2 h2
          obtain ⟨⟨a0, a1⟩, hbb, hb10, _, _⟩ := ops_below HX.out hi h1 h2
          obtain ⟨a, ha⟩ : ∃ a : Nat, X i 1 = (a : Int) := ⟨(X i 1).toNat, by omega⟩
          have han : a < n := by omega
          have hai : (a : Int) < (n : Int) := by omega
          have fa := HG.out.free a
          have ka := Hcs.out.at_ HG.out han
          have e1 := HE.out.cell 1
          rw [ha] at e1
          by_cases h10 : X i 0 = 10
          · have o10 : (X i 0 == 10) = true := by rw [h10]; rfl
            have HS := Lib.hid (Hsn.out (setU s.1 a) s.2 (by rw [stepU, if_pos ⟨hu, h1, h2⟩, if_pos h10, ha, Int.toNat_natCast]) (if_neg (fun h => h2 h.2)))
            clear h1 h2 h10 hbb hb10 a0 a1 ha hu
            gi_wp2
            refine occ_post HI.out ?_ (KeepsOthers.setCell _ _ _) ((Below.refl _ _).setCell (p := ⟨w.heap.size + 1, a, none⟩) (Nat.le_succ _) _)
            refine ⟨⟨⟨_, HG.out.set _ _, ?_⟩, ⟨vs, HV.out.far nVG _ _, ?_⟩, HT.out.far nTG _ _, HN.out.far nNG _ _⟩, Hbel.out.setCell (p := ⟨w.heap.size + 1, a, none⟩) (Nat.le_succ _) _⟩
            · rw [HS.out]; exact Hcs.out.put han
            · rw [HS.out]; exact Hvs.out
          · have o10 : (X i 0 == 10) = false := beq_eq_false_iff_ne.2 h10
            obtain ⟨b0, b1⟩ := hbb h10
            obtain ⟨b2, hb2⟩ : ∃ b2 : Nat, X i 2 = (b2 : Int) := ⟨(X i 2).toNat, by omega⟩
            have hbn : b2 < n := by omega
            have hbi : (b2 : Int) < (n : Int) := by omega
            have fb := HG.out.free b2
            have kb := Hcs.out.at_ HG.out hbn
            have e2 := HE.out.cell 2
            rw [hb2] at e2
            have hG2 := HG.out.set b2 (.bool true)
            have fa2 := hG2.free a
            have ka2 := (Hcs.out.put hbn).at_ hG2 han
            have t2 := (HT.out.far nTG b2 (.bool true)).cell 0
            have e12 := (HE.out.far nBG b2 (.bool true)).cell 1
            rw [ha] at e12
            have HG2 := Lib.hid hG2
            have HS := Lib.hid (Hsn.out (setU (setU s.1 a) b2) s.2 (by rw [stepU, if_pos ⟨hu, h1, h2⟩, if_neg h10, ha, hb2, Int.toNat_natCast, Int.toNat_natCast]) (if_neg (fun h => h2 h.2)))
            clear h1 h2 h10 hbb hb10 a0 a1 ha hu b0 b1 hb2 hG2
            gi_wp2
            refine occ_post HI.out ?_ ((KeepsOthers.setCell _ _ _).trans (KeepsOthers.setCell _ _ _)) (((Below.refl _ _).setCell (p := ⟨w.heap.size + 1, b2, none⟩) (Nat.le_succ _) _).setCell (p := ⟨w.heap.size + 1, a, none⟩) (Nat.le_succ _) _)
            refine ⟨⟨⟨_, HG2.out.set _ _, ?_⟩, ⟨vs, (HV.out.far nVG _ _).far nVG _ _, ?_⟩, (HT.out.far nTG _ _).far nTG _ _, (HN.out.far nNG _ _).far nNG _ _⟩, (Hbel.out.setCell (p := ⟨w.heap.size + 1, b2, none⟩) (Nat.le_succ _) _).setCell (p := ⟨w.heap.size + 1, a, none⟩) (Nat.le_succ _) _⟩
            · rw [HS.out]; exact ((Hcs.out.put hbn).put han).congr fun j _ => by simp only [setU]; cases (j == a) <;> cases (j == b2) <;> simp
            · rw [HS.out]; exact Hvs.out
  case done =>
    intro D xs W hD hxs hI hdef
    obtain ⟨⟨_, ⟨vs, hV, hvs⟩, _, _⟩, hbel⟩ := hI
    rw [hxs, sL_downto] at hvs
    have HB : Hid (BoolsAt W (some ⟨w.heap.size, 0, none⟩) 5 (vI X (n - 1) n)) := Lib.hid fun j hj => ⟨_, 0, rfl, hV.lt, by rw [Nat.zero_add]; exact hvs.at_ hV hj⟩
    have HD := Lib.hid hD
    have Hbel := Lib.hid hbel
    have Hdef := Lib.hid hdef
    have v0 := hV.cell 0
    clear hN4 hB4 hst4 hV hvs hbel hxs hdef hD
    gi_wp2_with fail
    refine ⟨trivial, ?_⟩
    refine (callsIn_wide.2 (setBits_any _ 5 5 _ _ (by omega) HB.out)).mono ?_
    rintro e W5 ⟨A1, c1, rfl, hls, hb5⟩
    have hlt := (Array.getElem?_eq_some_iff.1 Hdef.out).1
    have hK5 := (hb5.block D hlt).trans Hdef.out
    have HL := Lib.hid hls
    have H5 := Lib.hid hb5
    have HK := Lib.hid hK5
    have Hlt := Lib.hid hlt
    clear hls hb5 hK5 hlt v0
    gi_wp2_with fail
    refine ⟨by simp, .inl ⟨_, _, rfl, run_takeDeferred HK.out, ?_⟩⟩
    refine ⟨_, results_tmp rfl _ _ _, A1, c1, rfl, ?_, ?_⟩
    · exact IntsAt.low (IntsAt.keep HL.out ⟨by simp, fun b hb _ => World.putObj_heap_other (by have := Hlt.out; omega)⟩) Hbel.out.size
    · exact (Hbel.out.trans (H5.out.mono Hbel.out.size)).trans (belowK_b (w := w) (Nat.le_refl _) W5 D _ _ (by have := HD.out; omega) HK.out rfl rfl)
  case stop =>
    rintro D c pre W _ _ h _
    exact h.elim

end Go.Proofs.YtdeilceakhgjlaaGreat
