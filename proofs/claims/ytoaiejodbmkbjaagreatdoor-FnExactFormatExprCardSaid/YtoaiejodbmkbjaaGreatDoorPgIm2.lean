/-
  The program's test of the declarations.
-/
import Derived.Test.YtoaiejodbmkbjaaGreatDoorPgIm1
import Derived.Laws.AppendOwn
import Derived.Maps.AppendAt
import Derived.RangeFuncBox
namespace Go.Proofs.YtoaiejodbmkbjaaGreatDoor
open Go.RowKit Num

/-- All names, the variables' first. -/
def allN (P : Prg) (j : Nat) : ByteArray := if j < P.nv then P.vn j else P.pn (j - P.nv)
def strL (S : Nat → ByteArray) (k : Nat) : List Value := (List.range k).map fun j => .string (S j)
theorem strL_succ (S : Nat → ByteArray) (k : Nat) : strL S (k + 1) = strL S k ++ [.string (S k)] := by simp [strL, List.range_succ]

theorem declOk_iff (P : Prg) : (((1 ≤ P.nv ∧ P.nv ≤ 5) ∧ P.np ≤ 3) ∧ (∀ i, i < P.nv → 2 ≤ P.vz i ∧ P.vz i ≤ 4) ∧ NamesOk (allN P) (P.nv + P.np)) ↔ (VarsOk P ∧ ProcsOk P) := by
  have hv : ∀ j, j < P.nv → allN P j = P.vn j := fun j hj => if_pos hj
  have hp : ∀ j, allN P (P.nv + j) = P.pn j := fun j => by rw [allN, if_neg (by omega), Nat.add_sub_cancel_left]
  constructor
  · rintro ⟨⟨h1, h2⟩, hz, hn⟩
    refine ⟨⟨fun i hi => ?_, h1⟩, fun i hi => ?_, h2⟩
    · obtain ⟨a, b⟩ := hn i (by omega)
      rw [hv i hi] at a b
      exact ⟨a, hz i hi, fun j hj => by have := b j hj; rwa [hv j (by omega)] at this⟩
    · obtain ⟨a, b⟩ := hn (P.nv + i) (by omega)
      rw [hp i] at a b
      exact ⟨a, fun j hj => by have := b j (by omega); rwa [hv j hj] at this, fun j hj => by have := b (P.nv + j) (by omega); rwa [hp j] at this⟩
  · rintro ⟨⟨hV, h1⟩, hP, h2⟩
    refine ⟨⟨h1, h2⟩, fun i hi => (hV i hi).2.1, fun i hi => ?_⟩
    by_cases hi0 : i < P.nv
    · rw [hv i hi0]
      exact ⟨(hV i hi0).1, fun j hj => by rw [hv j (by omega)]; exact (hV i hi0).2.2 j hj⟩
    · obtain ⟨k, rfl⟩ : ∃ k, i = P.nv + k := ⟨i - P.nv, by omega⟩
      rw [hp k]
      refine ⟨(hP k (by omega)).1, fun j hj => ?_⟩
      by_cases hj0 : j < P.nv
      · rw [hv j hj0]; exact (hP k (by omega)).2.1 j hj0
      · obtain ⟨m, rfl⟩ : ∃ m, j = P.nv + m := ⟨j - P.nv, by omega⟩
        rw [hp m]; exact (hP k (by omega)).2.2 m (by omega)

theorem Tryz.infoStr : (Tryz.prog.info? 9).map (fun i => (i.zero, i.size, i.bytes)) = some (some (.string ⟨#[]⟩), 1, 16) := by kernel_rfl
theorem info_three {t : TypeId} {z : Value} {s b : Nat} (h : (Tryz.prog.info? t).map (fun i => (i.zero, i.size, i.bytes)) = some (some z, s, b)) : ∃ i, Tryz.prog.info? t = some i ∧ i.zero = some z ∧ i.size = s ∧ i.bytes = b := by
  obtain ⟨i, hi, hzz⟩ := Option.map_eq_some_iff.1 h
  simp only [Prod.mk.injEq] at hzz
  exact ⟨i, hi, hzz.1, hzz.2.1, hzz.2.2⟩

theorem own_keeps {w w' : World} {B base size : Nat} {e : TypeId} {v : Value} {n : Nat} {xs : List Value} (h : w.ownsRow base e size v n xs) (hb : Below B w w') (hB : w.heap.size ≤ B) : w'.ownsRow base e size v n xs := by
  refine ⟨h.1, ?_⟩
  rcases h.2 with h2 | ⟨b, cap, cur, rfl, h3, h4, h5⟩
  · exact .inl h2
  · exact .inr ⟨b, cap, cur, rfl, h3, (hb.block b (Nat.lt_of_lt_of_le (heap_lt h4) hB)).trans h4, h5⟩

theorem stL_of {w : World} {base n : Nat} {v : Value} {S : Nat → ByteArray} (h : w.ownsRow base 9 1 v n (strL S n)) (h0 : 0 < n) : ∃ g cap, v = .slice (some ⟨g, 0, none⟩) n cap ∧ n ≤ cap ∧ StL 0 w (some ⟨g, 0, none⟩) n S := by
  rcases h.2 with ⟨_, h2⟩ | ⟨g, cap, cur, rfl, h3, h4, h5, h6, h7, h8⟩
  · omega
  · refine ⟨g, cap, rfl, h5, fun _ => ⟨g, 0, rfl, ⟨Nat.zero_le _, heap_lt h4⟩, fun j hj => ?_⟩⟩
    have hx : Box w g 9 cur := h4
    rw [Nat.zero_add, hx.cell, ← Array.getElem?_toList]
    have h9 := congrArg (fun l : List Value => l[j]?) h8
    simp only [List.getElem?_take, Nat.mul_one, if_pos hj] at h9
    rw [h9, strL, List.getElem?_map, List.getElem?_range hj]
    rfl

theorem one_str (s : ByteArray) : ∀ u ∈ [Value.string s], u.oneCell' = true := by
  intro u hu
  rcases List.mem_singleton.1 hu with rfl
  rfl

set_option maxRecDepth 100000 in
set_option maxHeartbeats 6400000 in
theorem decl_any (lo : Nat) (P : Prg) (Av Ap : Option Addr) (cv cp : Nat) (w : World) (hs : P.small) (hV : VrAt lo w Av P.nv P.vn P.vz) (hPr : PrAt lo w Ap P.np P.pn P.pl P.pb) :
    Calls Tryz.prog 47 #[.slice Av P.nv cv, .slice Ap P.np cp] w (Yn (VarsOk P ∧ ProcsOk P) w) := by
  obtain ⟨i0, ji, jz0, jz1, jz2⟩ := info_three Tryz.infoStr
  have HV := Lib.hid hV
  have HP := Lib.hid hPr
  have HS := Lib.hid hs
  have HI := Lib.hid (declOk_iff P)
  have hnv := hs.nv
  have hnp := hs.np
  clear hV hPr hs
  by_cases hsz : (1 ≤ P.nv ∧ P.nv ≤ 5) ∧ P.np ≤ 3
  · have hd1 : decide ((P.nv : Int) < 1) = false := decide_eq_false (by omega)
    have hd2 : decide ((5 : Int) < (P.nv : Int)) = false := decide_eq_false (by omega)
    have hd3 : decide ((3 : Int) < (P.np : Int)) = false := decide_eq_false (by omega)
    go_enter Tryz.func47, Tryz.ntmps47
    go_wp2_with fail
    all_goals first
      | (exfalso; omega)
      | skip
    clear hd1 hd2 hd3
    go_loopg [5, 25] P.nv (fun q sv iv wr => ∃ (k : Nat), k + q = P.nv ∧ iv = .int .i64 (k : Nat) ∧ Hid (∀ j, j < k → 2 ≤ P.vz j ∧ P.vz j ≤ 4) ∧ wr.ownsRow w.heap.size 9 1 sv k (strL (allN P) k) ∧ Below w.heap.size w wr)
    case atStart => exact ⟨0, by omega, rfl, Lib.hid fun j h => by omega, World.ownsRow_nil _ _ _ _, Below.refl _ _⟩
    case round =>
      obtain ⟨k, hk, rfl, hq, hown, hbel⟩ := hrel
      by_cases hk0 : k < P.nv
      · obtain ⟨b, off, rfl, hb, r0, r1⟩ := (HV.out.below hbel (Nat.le_refl _)).at_ hk0
        have hal := (Below.refl wr.heap.size wr).alloc (Nat.le_refl _) (.cells #[.string (P.vn k), .int .i64 (P.vz k)] 82)
        have hX := Box.new wr 82 #[.string (P.vn k), .int .i64 (P.vz k)]
        obtain ⟨z0, z1, _, _⟩ := hX.two
        by_cases hz : 2 ≤ P.vz k ∧ P.vz k ≤ 4
        · have hz1 : decide (P.vz k < 2) = false := decide_eq_false (by omega)
          have hz2 : decide (4 < P.vz k) = false := decide_eq_false (by omega)
          have HZ := Lib.hid hz
          clear hz
          have hown2 := own_keeps hown hal (Nat.le_refl _)
          have hb2 := hbel.trans (hal.mono hbel.size)
          have hsz2 : w.heap.size ≤ wr.heap.size := hbel.size
          have hnm : allN P k = P.vn k := if_pos hk0
          have HNM := Lib.hid hnm
          clear hnm hown
          go_upto_region 9 with fail
          obtain ⟨w3, hw3⟩ : ∃ w3, w3 = wr.alloc (.cells #[.string (P.vn k), .int .i64 (P.vz k)] 82) := ⟨_, rfl⟩
          rw [← hw3] at hown2 hb2 hX ⊢
          have hsz3 : w.heap.size ≤ w3.heap.size := hb2.size
          obtain ⟨v0, v1, _, _⟩ := hX.two
          clear hw3
          go_wp2_with (at_builtin; refine wpList_append_own _ rfl _ _ 56 rfl w.heap.size 9 i0 (.string ⟨#[]⟩) 1 16 Tryz.underlying56 ji jz0 jz1 jz2 rfl (by decide) _ k _ rfl (hown2.alloc _) ⟨w3.heap.size, 0, none⟩ 1 1 [.string (P.vn k)] rfl rfl (cell_one_new _ _ _) (one_str _) (by unfold maxLen; omega) (by omega) (by simp; omega) ?_; intro v6 w6 hown6 hgrow6 _)
          go_roundg (gk - 1)
          case rel => exact ⟨k + 1, by omega, by go_num, Lib.hid fun j hj => by
            by_cases hjk : j < k
            · exact hq.out j hjk
            · obtain rfl : j = k := by omega
              exact HZ.out, by rw [strL_succ, HNM.out]; exact hown6, (hb2.alloc (by have := hb2.size; omega) _).grown hgrow6 (by simp; omega) (fun r hr => (hown2.lt r hr).1)⟩
          case measure => omega
        · have HZ := Lib.hid hz
          have hz1 : decide (P.vz k < 2) = true ∨ (decide (P.vz k < 2) = false ∧ decide (4 < P.vz k) = true) := by
            by_cases h : P.vz k < 2
            · exact .inl (decide_eq_true h)
            · exact .inr ⟨decide_eq_false h, decide_eq_true (by omega)⟩
          clear hz hown
          rcases hz1 with h1 | ⟨h1, h2⟩
          all_goals go_wp2_with fail
          all_goals go_ret
          all_goals exact Yn.no (fun h => HZ.out ((HI.out.2 h).2.1 k hk0)) (hbel.trans (hal.mono hbel.size))
      · obtain rfl : k = P.nv := by omega
        go_wp2_with fail
        go_loopg [5, 45] P.np (fun q sv iv wr => ∃ (k : Nat), k + q = P.np ∧ iv = .int .i64 (k : Nat) ∧ wr.ownsRow w.heap.size 9 1 sv (P.nv + k) (strL (allN P) (P.nv + k)) ∧ Below w.heap.size w wr)
        case atStart => exact ⟨0, by omega, rfl, hown, hbel⟩
        case round =>
          rename World => w4
          obtain ⟨k, hk, rfl, hown4, hbel4⟩ := hrel
          by_cases hk0 : k < P.np
          · obtain ⟨b, off, A1, c1, rfl, hb, r0, r1, _⟩ := (HP.out.below hbel4 (Nat.le_refl _)).at_ hk0
            have hal := (Below.refl w4.heap.size w4).alloc (Nat.le_refl _) (.cells #[.string (P.pn k), .slice A1 (P.pl k) c1] 89)
            have hX := Box.new w4 89 #[.string (P.pn k), .slice A1 (P.pl k) c1]
            obtain ⟨v0, v1, _, _⟩ := hX.two
            have hown2 := own_keeps hown4 hal (Nat.le_refl _)
            have hb2 := hbel4.trans (hal.mono hbel4.size)
            have hsz2 : w.heap.size ≤ w4.heap.size := hbel4.size
            have hnm : allN P (P.nv + k) = P.pn k := by rw [allN, if_neg (by omega), Nat.add_sub_cancel_left]
            have HNM := Lib.hid hnm
            clear hnm hown4 hown
            go_upto_region 14 with fail
            obtain ⟨w3, hw3⟩ : ∃ w3, w3 = w4.alloc (.cells #[.string (P.pn k), .slice A1 (P.pl k) c1] 89) := ⟨_, rfl⟩
            rw [← hw3] at hown2 hb2 hX ⊢
            have hsz3 : w.heap.size ≤ w3.heap.size := hb2.size
            obtain ⟨v0, v1, _, _⟩ := hX.two
            clear hw3
            go_wp2_with (at_builtin; refine wpList_append_own _ rfl _ _ 56 rfl w.heap.size 9 i0 (.string ⟨#[]⟩) 1 16 Tryz.underlying56 ji jz0 jz1 jz2 rfl (by decide) _ (P.nv + k) _ rfl (hown2.alloc _) ⟨w3.heap.size, 0, none⟩ 1 1 [.string (P.pn k)] rfl rfl (cell_one_new _ _ _) (one_str _) (by unfold maxLen; omega) (by omega) (by simp; omega) ?_; intro v6 w6 hown6 hgrow6 _)
            go_roundg (gk - 1)
            case rel => exact ⟨k + 1, by omega, by go_num, by rw [← Nat.add_assoc, strL_succ, HNM.out]; exact hown6, (hb2.alloc (by have := hb2.size; omega) _).grown hgrow6 (by simp; omega) (fun r hr => (hown2.lt r hr).1)⟩
            case measure => omega
          · obtain rfl : k = P.np := by omega
            obtain ⟨g, cap, rfl, hcap, hst⟩ := stL_of hown4 (by omega)
            have C := Lib.hid (distinct_any 0 (some ⟨g, 0, none⟩) (P.nv + P.np) cap (allN P) w4 (by omega) hcap (fun j hj => by
              unfold allN
              split
              · exact HS.out.vn j (by assumption)
              · exact HS.out.pn _ (by omega)) hst)
            clear hst hown hown4
            go_wp2_with (go_at_call 65; refine C.out.mono ?_; rintro e w5 ⟨r, rfl, hr, hb5⟩)
            go_ret
            exact ⟨r, rfl, Lib.hid ⟨fun h => HI.out.1 ⟨hsz, hq.out, hr.out.1 h⟩, fun h => hr.out.2 (HI.out.2 h).2.2⟩, hbel4.trans (hb5.mono hbel4.size)⟩
  · have HZ := Lib.hid hsz
    have hz1 : decide ((P.nv : Int) < 1) = true ∨ (decide ((P.nv : Int) < 1) = false ∧ decide ((5 : Int) < (P.nv : Int)) = true) ∨ (decide ((P.nv : Int) < 1) = false ∧ decide ((5 : Int) < (P.nv : Int)) = false ∧ decide ((3 : Int) < (P.np : Int)) = true) := by
      by_cases h : P.nv < 1
      · exact .inl (decide_eq_true (by omega))
      · by_cases h5 : 5 < P.nv
        · exact .inr (.inl ⟨decide_eq_false (by omega), decide_eq_true (by omega)⟩)
        · exact .inr (.inr ⟨decide_eq_false (by omega), decide_eq_false (by omega), decide_eq_true (by omega)⟩)
    clear hsz
    rcases hz1 with h1 | ⟨h1, h2⟩ | ⟨h1, h2, h3⟩
    all_goals go_enter Tryz.func47, Tryz.ntmps47
    all_goals go_wp2_with fail
    all_goals first
      | (go_ret
         exact Yn.no (fun h => HZ.out (HI.out.2 h).1) (Below.refl _ _))
      | (exfalso; simp at h1; omega)
      | (exfalso; simp at h1 h2; omega)
      | (exfalso; simp at h1 h2 h3; omega)

end Go.Proofs.YtoaiejodbmkbjaaGreatDoor
