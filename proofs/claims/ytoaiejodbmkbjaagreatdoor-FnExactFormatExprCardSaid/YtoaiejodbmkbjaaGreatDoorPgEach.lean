/-
  The program's test that every statement stands in just one block.
-/
import Derived.Test.YtoaiejodbmkbjaaGreatDoorPgBo
namespace Go.Proofs.YtoaiejodbmkbjaaGreatDoor
open Go.RowKit Num

/-- The block's cells say which statements stand in the list. -/
def Occ (cs : Array Value) (ns : Nat) (l : List Int) : Prop := cs.size = ns ∧ ∀ m, m < ns → cs[m]? = some (.bool (decide ((m : Int) ∈ l)))

set_option maxRecDepth 100000 in
set_option maxHeartbeats 1600000 in
theorem idxB_any (G ns : Nat) (cs : Array Value) (l : List Int) (w : World) (hns : ns ≤ 1048576) (hbx : Box w G 4 cs) (hc : Occ cs ns l) :
    Calls Tryz.prog 84 #[.slice (some ⟨G, 0, none⟩) ns ns, .bool false] w (IdxPost (∃ m : Nat, m < ns ∧ ¬ (m : Int) ∈ l) w) := by
  have HC := Lib.hid hc
  clear hc
  go_enter Tryz.func84, Tryz.ntmps84
  go_wp2_with fail
  go_loopg [8] ns (fun q iv wr => ∃ k : Nat, k + q = ns ∧ iv = .int .i64 (k : Nat) ∧ Hid (∀ m : Nat, m < k → (m : Int) ∈ l) ∧ Below w.heap.size w wr)
  case atStart => exact ⟨0, by omega, rfl, Lib.hid fun j h => by omega, Below.refl _ _⟩
  case round =>
    obtain ⟨k, hk, rfl, hq, hbel⟩ := hrel
    replace hbx := hbx.below hbel hbx.lt
    by_cases hk0 : k < ns
    · obtain ⟨c, hcd⟩ : ∃ c, c = decide ((k : Int) ∈ l) := ⟨_, rfl⟩
      have k0 : wr.cell? ⟨G, k, none⟩ = some (.bool c) := by rw [hbx.cell, hcd]; exact HC.out.2 k hk0
      have HCD := Lib.hid hcd
      clear hcd
      cases c with
      | false =>
        go_wp2_with fail
        go_ret
        exact ⟨(k : Int), rfl, Lib.hid ⟨fun _ => ⟨k, hk0, of_decide_eq_false HCD.out.symm⟩, fun _ => by omega⟩, hbel⟩
      | true =>
        go_wp2_with fail
        go_roundg (gk - 1)
        case rel => exact ⟨k + 1, by omega, by go_num, Lib.hid fun j hj => by
          by_cases hjk : j < k
          · exact hq.out j hjk
          · obtain rfl : j = k := by omega
            exact of_decide_eq_true HCD.out.symm, hbel⟩
        case measure => omega
    · obtain rfl : k = ns := by omega
      go_wp2_with fail
      go_ret
      exact ⟨-1, rfl, Lib.hid ⟨fun h => by omega, fun ⟨j, hj, h⟩ => absurd (hq.out j hj) h⟩, hbel⟩

set_option maxRecDepth 100000 in
theorem hasB_any (G ns : Nat) (cs : Array Value) (l : List Int) (w : World) (hns : ns ≤ 1048576) (hbx : Box w G 4 cs) (hc : Occ cs ns l) :
    Calls Tryz.prog 72 #[.slice (some ⟨G, 0, none⟩) ns ns, .bool false] w (Yn (∃ m : Nat, m < ns ∧ ¬ (m : Int) ∈ l) w) := by
  have C := Lib.hid (idxB_any G ns cs l w hns hbx hc)
  clear hc hbx
  go_enter Tryz.func72, Tryz.ntmps72
  go_wp2_with (go_at_call 84; refine C.out.mono ?_; rintro e w1 ⟨r, rfl, hr, hb⟩)
  go_ret
  exact ⟨_, rfl, Lib.hid ⟨fun h => hr.out.1 (by simpa using h), fun h => by simpa using hr.out.2 h⟩, hb⟩

theorem Tryz.infoBool : (Tryz.prog.info? 4).map (fun i => (i.zero, i.size, i.bytes)) = some (some (.bool false), 1, 1) := by kernel_rfl

theorem mk_bool (n : Nat) (hn : n ≤ 1048576) (w : World) :
    (Instr.makeSlice 110 (.int .i64 (n : Int)) (.int .i64 (n : Int))).run Tryz.prog w = .ok (.slice (some ⟨w.heap.size, 0, none⟩) n n) (w.alloc (.cells (madeCells #[.bool false] n) 4)) := by
  obtain ⟨i, hi, hzz⟩ := Option.map_eq_some_iff.1 Tryz.infoBool
  simp only [Prod.mk.injEq] at hzz
  obtain ⟨hz, hs, hb⟩ := hzz
  have hr := run_make (P := Tryz.prog) w 110 4 i _ Tryz.underlying110 hi hz .i64 .i64 n n (by omega) (Int.le_refl _) (by rw [hb]; omega) (by omega)
  simp only [Int.toNat_natCast, hs, Value.cells, Nat.mul_one] at hr
  exact hr

theorem occ_nil (ns : Nat) : Occ (madeCells #[.bool false] ns) ns [] := by
  refine ⟨size_madeCells _ _, fun m hm => ?_⟩
  have h1 : (madeCells #[Value.bool false] ns).toList[m]? = some (.bool false) := by rw [toList_madeCells_one, List.getElem?_replicate, if_pos hm]
  rw [← Array.getElem?_toList, h1]
  rfl

theorem own_cells {w : World} {base g n cap : Nat} {e : TypeId} {xs : List Value} (h : w.ownsRow base e 1 (.slice (some ⟨g, 0, none⟩) n cap) n xs) (h0 : 0 < n) : ∃ cur, Box w g e cur ∧ ∀ i, i < n → cur[i]? = xs[i]? := by
  rcases h.2 with ⟨_, h2⟩ | ⟨g', cap', cur, he, h3, h4, h5, h6, h7, h8⟩
  · omega
  · injection he with he _ _
    injection he with he
    injection he with he _ _
    subst he
    refine ⟨cur, h4, fun i hi => ?_⟩
    have h9 := congrArg (fun l : List Value => l[i]?) h8
    simp only [List.getElem?_take, Nat.mul_one, if_pos hi] at h9
    rw [← Array.getElem?_toList]
    exact h9

theorem flat_take {l : List (Nat × (Nat → Int))} {i : Nat} {p : Nat × (Nat → Int)} (h : l[i]? = some p) : flat (l.take (i + 1)) = flat (l.take i) ++ fl p.1 p.2 := by
  rw [List.take_add_one, h]
  simp [flat, List.flatMap_append]
theorem flat_split {l : List (Nat × (Nat → Int))} (i : Nat) : flat l = flat (l.take i) ++ flat (l.drop i) := by
  rw [flat, flat, flat, ← List.flatMap_append, List.take_append_drop]
theorem fl_split {n j : Nat} {f : Nat → Int} (h : j < n) : ∃ r, fl n f = fl j f ++ f j :: r := by
  induction n with
  | zero => omega
  | succ n ih =>
    by_cases hj : j < n
    · obtain ⟨r, hr⟩ := ih hj
      exact ⟨r ++ [f n], by rw [fl_succ, hr]; simp⟩
    · obtain rfl : j = n := by omega
      exact ⟨[], fl_succ j f⟩
theorem blk_at {P : Prg} {i j : Nat} {p : Nat × (Nat → Int)} (h : (blS P P.ns)[i]? = some p) (hj : j < p.1) : ∃ r, lsS P P.ns = (flat ((blS P P.ns).take i) ++ fl j p.2) ++ p.2 j :: r := by
  obtain ⟨r, hr⟩ := fl_split (f := p.2) hj
  refine ⟨r ++ flat ((blS P P.ns).drop (i + 1)), ?_⟩
  rw [← flat_blS, flat_split (i + 1), flat_take h, hr]
  simp

theorem blS_small {P : Prg} (hs : P.small) {i : Nat} {p : Nat × (Nat → Int)} (h : (blS P P.ns)[i]? = some p) : p.1 ≤ 1048576 := by
  have h1 := List.mem_of_getElem? h
  simp only [blS, blP, List.mem_append, List.mem_map, List.mem_range, List.mem_flatMap, List.mem_cons, List.not_mem_nil, or_false] at h1
  rcases h1 with (rfl | ⟨j, hj, rfl⟩) | ⟨j, hj, rfl | rfl⟩
  · exact hs.nb
  · exact hs.pl j hj
  · exact (hs.st j hj).nt
  · exact (hs.st j hj).ne

/-- The numbers so far are statements, no two of them the same. -/
def SoFar (ns : Nat) (l : List Int) : Prop := (∀ x ∈ l, 0 ≤ x ∧ x < (ns : Int)) ∧ l.Nodup
theorem SoFar.more {ns : Nat} {l : List Int} {x : Int} (h : SoFar ns l) (hx : 0 ≤ x ∧ x < (ns : Int)) (hn : ¬ x ∈ l) : SoFar ns (l ++ [x]) := by
  refine ⟨fun y hy => ?_, ?_⟩
  · rcases List.mem_append.1 hy with hy | hy
    · exact h.1 y hy
    · rw [List.mem_singleton.1 hy]; exact hx
  · rw [List.nodup_append]
    refine ⟨h.2, by simp, fun a ha b hb => ?_⟩
    rw [List.mem_singleton.1 hb]
    exact fun e => hn (e ▸ ha)

set_option maxRecDepth 100000 in
set_option maxHeartbeats 6400000 in
theorem once_any (lo : Nat) (P : Prg) (Av Ax As Ap Ab : Option Addr) (cv cx cs cp cb : Nat) (w : World) (hs : P.small) (h : PgAt lo w Av Ax As Ap Ab P) :
    Calls Tryz.prog 50 #[.agg #[.slice Av P.nv cv, .slice Ax P.nx cx, .slice As P.ns cs, .slice Ap P.np cp, .slice Ab P.nb cb, .int .i64 P.fuel]] w (Yn (OnceOk P) w) := by
  have hP := Box.new w 37 #[.slice Av P.nv cv, .slice Ax P.nx cx, .slice As P.ns cs, .slice Ap P.np cp, .slice Ab P.nb cb, .int .i64 P.fuel]
  have hB := (Below.refl w.heap.size w).alloc (Nat.le_refl _) (.cells #[.slice Av P.nv cv, .slice Ax P.nx cx, .slice As P.ns cs, .slice Ap P.np cp, .slice Ab P.nb cb, .int .i64 P.fuel] 37)
  have hns := hs.ns
  have hnp := hs.np
  have hmk := mk_bool P.ns hns
  obtain ⟨w1, hw1⟩ : ∃ w1, w1 = w.alloc (.cells #[.slice Av P.nv cv, .slice Ax P.nx cx, .slice As P.ns cs, .slice Ap P.np cp, .slice Ab P.nb cb, .int .i64 P.fuel] 37) := ⟨_, rfl⟩
  rw [← hw1] at hP hB
  obtain ⟨G, hG⟩ : ∃ G, G = w.heap.size + 1 := ⟨_, rfl⟩
  have hG1 : w1.heap.size = G := by rw [hw1, hG]; simp
  have hX := Box.new w1 4 (madeCells #[.bool false] P.ns)
  rw [hG1] at hX
  have hB2 := hB.alloc hB.size (.cells (madeCells #[.bool false] P.ns) 4)
  have hP2 := hP.alloc (.cells (madeCells #[.bool false] P.ns) 4)
  obtain ⟨w2, hw2⟩ : ∃ w2, w2 = w1.alloc (.cells (madeCells #[.bool false] P.ns) 4) := ⟨_, rfl⟩
  rw [← hw2] at hX hB2 hP2
  have hz2 : w2.heap.size = G + 1 := by rw [hw2, ← hG1]; simp
  have CB := Lib.hid (blks_any lo P Av Ax As Ap Ab cv cx cs cp cb w w2 hs hB2 h)
  have hwG : w.heap.size ≤ G := by omega
  have HSM := Lib.hid hs
  clear h hs
  obtain ⟨q0, q1, q2, q3, q4, q5, qf⟩ := hP.six
  obtain ⟨p0, p1, p2, p3, p4, p5, pf⟩ := hP2.six
  go_enter Tryz.func50, Tryz.ntmps50
  go_upto_region 2 with fail
  rw [← hw1, ← hG, ← hw2]
  clear hw1 hw2 hmk hG q0 q1 q2 q3 q4 q5 qf
  go_wp2_with (go_at_call 71; refine CB.out.mono ?_; rintro e w3 ⟨g, cap, xs, n, hn, rfl, hg, hown, hbl, hb3⟩)
  obtain ⟨cur, hcur, hcell⟩ := own_cells hown (by have := hn.out; omega)
  have hX3 := hX.below hb3 (by omega)
  have hB3 := hB2.trans (hb3.mono hB2.size)
  have HBL := Lib.hid hbl
  have HCE := Lib.hid hcell
  have hgG : g ≠ G := by omega
  have hlen := blS_len P P.ns
  have hnb : n ≤ 4000000 := by have := hn.out; omega
  rw [← hn.out] at hlen
  have HN := Lib.hid hlen
  clear hn hown hbl hcell hb3 hX hB2 hP2 p0 p1 p2 p3 p4 p5 pf CB hB hP hlen
  go_loopg [15] n (fun q iv wr => ∃ (i : Nat) (cs : Array Value), i + q = n ∧ iv = .int .i64 (i : Nat) ∧ Hid (SoFar P.ns (flat ((blS P P.ns).take i))) ∧ Hid (Occ cs P.ns (flat ((blS P P.ns).take i))) ∧ Box wr G 4 cs ∧ Below w.heap.size w wr ∧ Only G w3 wr)
  case atStart => exact ⟨0, _, by omega, rfl, Lib.hid ⟨fun x hx => by simp [flat] at hx, by simp [flat]⟩, Lib.hid (by rw [List.take_zero]; exact occ_nil _), hX3, hB3, Only.refl _ _⟩
  case round =>
    rename World => w4
    obtain ⟨i, cs4, hi, rfl, hsf, hoc, hbx, hbel, hon⟩ := hrel
    by_cases hi0 : i < n
    · obtain ⟨p, hp⟩ : ∃ p, (blS P P.ns)[i]? = some p := ⟨_, List.getElem?_eq_getElem (by rw [HN.out]; exact hi0)⟩
      obtain ⟨A1, c1, hxi, hI⟩ := HBL.out.2 i p hp
      have k0 : w4.cell? ⟨g, i, none⟩ = some (.slice A1 p.1 c1) := by rw [(hcur.only hon hgG).cell, HCE.out i hi0, hxi]
      have HPP := Lib.hid hp
      have HI := Lib.hid hI
      obtain ⟨pn, hpn⟩ : ∃ pn, pn = p.1 := ⟨_, rfl⟩
      rw [← hpn] at k0
      have hpb : pn ≤ 1048576 := by rw [hpn]; exact blS_small HSM.out hp
      have HPN := Lib.hid hpn
      clear hp hI hxi hpn
      go_wp2_with fail
      clear k0
      go_loopg [21] pn (fun q jv wr => ∃ (j : Nat) (cs : Array Value), j + q = pn ∧ jv = .int .i64 (j : Nat) ∧ Hid (SoFar P.ns (flat ((blS P P.ns).take i) ++ fl j p.2)) ∧ Hid (Occ cs P.ns (flat ((blS P P.ns).take i) ++ fl j p.2)) ∧ Box wr G 4 cs ∧ Below w.heap.size w wr ∧ Only G w3 wr)
      case atStart => exact ⟨0, cs4, by omega, rfl, Lib.hid (by rw [show fl 0 p.2 = [] from rfl, List.append_nil]; exact hsf.out), Lib.hid (by rw [show fl 0 p.2 = [] from rfl, List.append_nil]; exact hoc.out), hbx, hbel, hon⟩
      case round =>
        rename World => w5
        obtain ⟨j, cs5, hj, rfl, hsf5, hoc5, hbx5, hbel5, hon5⟩ := hrel
        by_cases hj0 : j < pn
        · obtain ⟨b, off, rfl, hb, r0⟩ := (HI.out.below hbel5 (Nat.le_refl _)).at_ (show j < p.1 by have := HPN.out; omega)
          obtain ⟨rest, hrest⟩ := blk_at HPP.out (show j < p.1 by have := HPN.out; omega)
          obtain ⟨x, hx⟩ : ∃ x, x = p.2 j := ⟨_, rfl⟩
          rw [← hx] at r0 hrest
          have HX := Lib.hid hx
          have HR := Lib.hid hrest
          clear hx hrest
          by_cases hin : 0 ≤ x ∧ x < (P.ns : Int)
          · obtain ⟨m, rfl⟩ : ∃ m : Nat, x = (m : Nat) := ⟨x.toNat, by omega⟩
            have C1 : Hid (∀ W, Calls Tryz.prog 24 #[.int .i64 (m : Nat), .int .i64 (P.ns : Nat)] W fun e w' => e = .returned (.bool true) ∧ W = w') := Lib.hid fun W => by have := idx_any (m : Nat) (P.ns : Nat) W; rwa [decide_eq_true hin] at this
            have hmn : m < P.ns := by omega
            have hmi : (m : Int) < (P.ns : Int) := by omega
            obtain ⟨c, hcd⟩ : ∃ c, c = decide ((m : Int) ∈ flat ((blS P P.ns).take i) ++ fl j p.2) := ⟨_, rfl⟩
            have k0 : w5.cell? ⟨G, m, none⟩ = some (.bool c) := by rw [hbx5.cell, hcd]; exact hoc5.out.2 m hmn
            have f0 : w5.frozen? ⟨G, m, none⟩ = false := hbx5.free _
            have HCD := Lib.hid hcd
            have HIN := Lib.hid hin
            clear hcd hin
            cases c with
            | true =>
              go_wp2_with (go_at_call 24; refine (C1.out _).mono ?_; rintro e w' ⟨rfl, rfl⟩)
              go_ret
              exact Yn.no (fun h => by
                have h1 := h.2.1
                rw [HR.out, List.nodup_append] at h1
                exact h1.2.2 _ (of_decide_eq_true HCD.out.symm) _ (by simp) rfl) hbel5
            | false =>
              go_wp2_with (go_at_call 24; refine (C1.out _).mono ?_; rintro e w' ⟨rfl, rfl⟩)
              go_roundg (gk - 1)
              case rel =>
                refine ⟨j + 1, _, by omega, by go_num, Lib.hid ?_, Lib.hid ⟨?_, fun m' hm' => ?_⟩, hbx5.set _ _, hbel5.setCell (p := ⟨G, m, none⟩) hwG _, hon5.trans (Only.set G _ _ _)⟩
                · rw [fl_succ, ← List.append_assoc, ← HX.out]
                  exact hsf5.out.more HIN.out (of_decide_eq_false HCD.out.symm)
                · rw [Array.size_setIfInBounds]; exact hoc5.out.1
                · rw [Array.getElem?_setIfInBounds, fl_succ, ← List.append_assoc, ← HX.out]
                  by_cases hmm : m = m'
                  · subst hmm
                    rw [if_pos rfl, if_pos (by rw [hoc5.out.1]; exact hm')]
                    simp
                  · rw [if_neg hmm, hoc5.out.2 m' hm']
                    congr 2
                    rw [decide_eq_decide]
                    constructor
                    · intro h; exact List.mem_append_left _ h
                    · intro h
                      rcases List.mem_append.1 h with h | h
                      · exact h
                      · have := List.mem_singleton.1 h; omega
              case measure => omega
          · have C1 : Hid (∀ W, Calls Tryz.prog 24 #[.int .i64 x, .int .i64 (P.ns : Nat)] W fun e w' => e = .returned (.bool false) ∧ W = w') := Lib.hid fun W => by have := idx_any x (P.ns : Nat) W; rwa [decide_eq_false hin] at this
            have HIN := Lib.hid hin
            clear hin
            go_wp2_with (go_at_call 24; refine (C1.out _).mono ?_; rintro e w' ⟨rfl, rfl⟩)
            go_ret
            exact Yn.no (fun h => HIN.out (h.1 x (by rw [HR.out]; simp))) hbel5
        · obtain rfl : j = pn := by omega
          go_wp2_with fail
          go_roundg (n - (i + 1))
          case rel => exact ⟨i + 1, cs5, by omega, by go_num, Lib.hid (by rw [flat_take HPP.out, ← HPN.out]; exact hsf5.out), Lib.hid (by rw [flat_take HPP.out, ← HPN.out]; exact hoc5.out), hbx5, hbel5, hon5⟩
          case measure => omega
    · obtain rfl : i = n := by omega
      have hall : flat ((blS P P.ns).take i) = lsS P P.ns := by rw [List.take_of_length_le (by rw [HN.out]; exact Nat.le_refl _), flat_blS]
      have Hsf : Hid (SoFar P.ns (lsS P P.ns)) := Lib.hid (by rw [← hall]; exact hsf.out)
      have Hoc : Occ cs4 P.ns (lsS P P.ns) := by rw [← hall]; exact hoc.out
      have C := Lib.hid (hasB_any G P.ns cs4 (lsS P P.ns) w4 hns hbx Hoc)
      clear hall hsf hoc Hoc
      go_wp2_with (go_at_call 72; refine C.out.mono ?_; rintro e w6 ⟨r, rfl, hr, hb6⟩)
      go_ret
      refine ⟨_, rfl, Lib.hid ⟨fun h => ⟨Hsf.out.1, Hsf.out.2, fun m hm => ?_⟩, fun h => ?_⟩, hbel.trans (hb6.mono hbel.size)⟩
      · apply Classical.byContradiction
        intro hmm
        have h1 := hr.out.2 ⟨m, hm, hmm⟩
        rw [h1] at h
        cases h
      · cases r with
        | false => rfl
        | true =>
          obtain ⟨m, hm, hmm⟩ := hr.out.1 rfl
          exact absurd (h.2.2 m hm) hmm

end Go.Proofs.YtoaiejodbmkbjaaGreatDoor
