/-
  Sets of small numbers as rising lists: the model's insertion, and the program's list of the true elements.
-/
import Derived.Test.YtmobcahfalaaeaaDgPu
namespace Go.Proofs.Ytmobcahfalaaeaa
open Go.RowKit Num

/-- The numbers below K for which u holds, in increasing order. -/
def upsN (u : Nat → Bool) (K : Nat) : List Nat := (List.range K).filter u
def ups (u : Nat → Bool) (K : Nat) : List Int := (upsN u K).map fun (j : Nat) => (j : Int)
def setU (u : Nat → Bool) (v : Nat) : Nat → Bool := fun j => u j || j == v
theorem upsN_succ (u : Nat → Bool) (k : Nat) : upsN u (k + 1) = upsN u k ++ if u k then [k] else [] := by
  rw [upsN, List.range_succ, List.filter_append, ← upsN]
  cases h : u k <;> simp [List.filter, h]
theorem ups_succ (u : Nat → Bool) (k : Nat) : ups u (k + 1) = ups u k ++ if u k then [(k : Int)] else [] := by
  rw [ups, upsN_succ, List.map_append, ← ups]
  cases u k <;> rfl
theorem upsN_le (u : Nat → Bool) (K : Nat) : (upsN u K).length ≤ K := by
  have := List.length_filter_le u (List.range K)
  rwa [List.length_range] at this
theorem ups_le (u : Nat → Bool) (K : Nat) : (ups u K).length ≤ K := by rw [ups, List.length_map]; exact upsN_le u K
theorem mem_ups {u : Nat → Bool} {K : Nat} {z : Int} : z ∈ ups u K ↔ ∃ j, j < K ∧ u j = true ∧ z = (j : Int) := by
  simp only [ups, upsN, List.mem_map, List.mem_filter, List.mem_range]
  constructor
  · rintro ⟨j, ⟨h1, h2⟩, rfl⟩; exact ⟨j, h1, h2, rfl⟩
  · rintro ⟨j, h1, h2, rfl⟩; exact ⟨j, ⟨h1, h2⟩, rfl⟩
theorem ups_congr {u u' : Nat → Bool} {K : Nat} (h : ∀ j, j < K → u j = u' j) : ups u K = ups u' K := by
  rw [ups, ups, upsN, upsN, List.filter_congr fun j hj => h j (List.mem_range.1 hj)]

theorem range_split {v K : Nat} (h : v < K) : List.range K = List.range v ++ v :: List.range' (v + 1) (K - v - 1) := by
  apply List.ext_getElem
  · simp; omega
  · intro i h1 h2
    rw [List.getElem_range, List.getElem_append]
    split
    · rw [List.getElem_range]
    · rename_i hi
      rw [List.getElem_cons]
      simp only [List.length_range] at hi ⊢
      split
      · omega
      · rw [List.getElem_range']
        omega

/-- What is above v. -/
def tops (u : Nat → Bool) (v K : Nat) : List Int := ((List.range' (v + 1) (K - v - 1)).filter u).map fun (j : Nat) => (j : Int)
theorem ups_split (u : Nat → Bool) {v K : Nat} (h : v < K) : ups u K = ups u v ++ ((if u v then [(v : Int)] else []) ++ tops u v K) := by
  rw [ups, upsN, range_split h, List.filter_append, List.filter_cons, List.map_append, ← upsN, ← ups, tops]
  cases u v <;> rfl
theorem ups_set (u : Nat → Bool) {v K : Nat} (h : v < K) : ups (setU u v) K = ups u v ++ (v : Int) :: tops u v K := by
  rw [ups_split (setU u v) h]
  have h1 : ups (setU u v) v = ups u v := ups_congr fun j hj => by
    have : (j == v) = false := beq_eq_false_iff_ne.2 (by omega)
    rw [setU, this, Bool.or_false]
  have h2 : tops (setU u v) v K = tops u v K := by
    rw [tops, tops, List.filter_congr fun j hj => ?_]
    have := (List.mem_range'_1.1 hj).1
    have : (j == v) = false := beq_eq_false_iff_ne.2 (by omega)
    rw [setU, this, Bool.or_false]
  have h3 : setU u v v = true := by simp [setU]
  rw [h1, h2, h3]
  rfl
theorem ups_low {u : Nat → Bool} {v : Nat} : ∀ y ∈ ups u v, y < (v : Int) := by
  intro y hy
  obtain ⟨j, hj, _, rfl⟩ := mem_ups.1 hy
  omega
theorem tops_high {u : Nat → Bool} {v K : Nat} : ∀ y ∈ tops u v K, (v : Int) < y := by
  intro y hy
  simp only [tops, List.mem_map, List.mem_filter] at hy
  obtain ⟨j, ⟨hj, _⟩, rfl⟩ := hy
  have := (List.mem_range'_1.1 hj).1
  omega

/-- A list under way: nil as long as it is empty. -/
def OutAt (lo : Nat) (w : World) (v : Value) (xs : List Int) : Prop :=
  (xs = [] ∧ v = .slice none 0 0) ∨ (0 < xs.length ∧ ∃ b off c, v = .slice (some ⟨b, off, none⟩) xs.length c ∧ xs.length ≤ c ∧ LsAt lo w (some ⟨b, off, none⟩) xs)
theorem OutAt.of_own {w : World} {base n c : Nat} {A : Option Addr} {xs : List Int} (h : w.ownsRow base 3 1 (.slice A n c) n (cellsL xs)) (hn : 0 < n) : OutAt base w (.slice A n c) xs := by
  obtain ⟨hl, hA⟩ := LsAt.of_own h
  subst hl
  rcases h.2 with ⟨_, h0⟩ | ⟨g, cap, cur, e, h3, h4, h5, h6⟩
  · omega
  · injection e with e1 e2 e3
    subst e1 e3
    exact .inr ⟨hn, g, 0, c, rfl, h5, hA⟩
theorem LsAt.below {lo B : Nat} {w w' : World} {A : Option Addr} {xs : List Int} (h : LsAt lo w A xs) (hb : Below B w w') (hB : w.heap.size ≤ B) : LsAt lo w' A xs := IntsAt.below h hb hB
theorem LsAt.low {lo lo' : Nat} {w : World} {A : Option Addr} {xs : List Int} (h : LsAt lo w A xs) (hl : lo' ≤ lo) : LsAt lo' w A xs := IntsAt.low h hl
theorem OutAt.below {lo B : Nat} {w w' : World} {v : Value} {xs : List Int} (h : OutAt lo w v xs) (hb : Below B w w') (hB : w.heap.size ≤ B) : OutAt lo w' v xs := by
  rcases h with h | ⟨h0, b, off, c, rfl, h1, h2⟩
  · exact .inl h
  · exact .inr ⟨h0, b, off, c, rfl, h1, h2.below hb hB⟩
theorem OutAt.low {lo lo' : Nat} {w : World} {v : Value} {xs : List Int} (h : OutAt lo w v xs) (hl : lo' ≤ lo) : OutAt lo' w v xs := by
  rcases h with h | ⟨h0, b, off, c, rfl, h1, h2⟩
  · exact .inl h
  · exact .inr ⟨h0, b, off, c, rfl, h1, h2.low hl⟩
theorem OutAt.at_ {lo : Nat} {w : World} {v : Value} {xs : List Int} (h : OutAt lo w v xs) : ∃ A c, v = .slice A xs.length c ∧ LsAt lo w A xs := by
  rcases h with ⟨rfl, rfl⟩ | ⟨h0, b, off, c, rfl, h1, h2⟩
  · exact ⟨none, 0, rfl, fun h => absurd h (Nat.lt_irrefl 0)⟩
  · exact ⟨_, c, rfl, h2⟩

/-- A number is put into the list. -/
theorem put_any (lo : Nat) (u : Nat → Bool) (K v : Nat) (xv : Value) (w : World) (hv : v < K) (hK : K ≤ 100) (hlo : lo ≤ w.heap.size) (h : OutAt lo w xv (ups u K)) :
    Calls Try.prog 61 #[xv, .int .i64 (v : Nat)] w fun e w' => ∃ xv', e = .returned xv' ∧ OutAt lo w' xv' (ups (setU u v) K) ∧ Below w.heap.size w w' := by
  have hle := ups_le u K
  rcases h with ⟨h0, rfl⟩ | ⟨h0, b, off, c, rfl, h1, h2⟩
  · have hs := ups_split u hv
    rw [h0] at hs
    have hz : ups u v = [] ∧ tops u v K = [] := by
      have := hs.symm
      simp only [List.append_eq_nil_iff] at this
      exact ⟨this.1, this.2.2⟩
    have he : ups (setU u v) K = [(v : Int)] := by rw [ups_set u hv, hz.1, hz.2]; rfl
    rw [he]
    refine (putNil_any (v : Int) w).mono ?_
    rintro e w' ⟨A1, c1, rfl, ho, hb⟩
    exact ⟨_, rfl, (OutAt.of_own ho (by omega)).low hlo, hb⟩
  · cases hu : u v with
    | true =>
      have hs : ups u K = ups u v ++ (v : Int) :: tops u v K := by rw [ups_split u hv, hu]; rfl
      have hsame : ups (setU u v) K = ups u K := by rw [ups_set u hv, hs]
      rw [hsame]
      rw [hs] at h2
      refine (putHas_any lo _ c (ups u K).length (ups u v) (tops u v K) (v : Int) w (by omega) (by rw [hs]) ups_low h2).mono ?_
      rintro e w' ⟨rfl, rfl⟩
      rw [← hs] at h2
      exact ⟨_, rfl, .inr ⟨h0, b, off, c, rfl, h1, h2⟩, Below.refl _ _⟩
    | false =>
      have hs : ups u K = ups u v ++ tops u v K := by rw [ups_split u hv, hu]; rfl
      have hlen : (ups u K).length = (ups u v).length + (tops u v K).length := by rw [hs, List.length_append]
      rw [ups_set u hv]
      obtain ⟨b', off', e', hb', hc'⟩ := h2 h0
      injection e' with e'
      injection e' with e1 e2 _
      subst e1 e2
      have hcells := h2.cells
      refine (putNew_f b off c (ups u K).length (ups u v).length (fun j => (ups u K).getD j 0) (ups u v) (tops u v K) (v : Int) w hb'.lt h0 (by omega) h1 (by omega) rfl (by omega) (fun j hj => ?_) (fun hp => ?_) hc' (fun j z hz => ?_) (fun j z hz => ?_)).mono ?_
      · show (ups u K).getD j 0 < _
        rw [hs, List.getD, List.getElem?_append_left hj, List.getElem?_eq_getElem hj]
        exact ups_low _ (List.getElem_mem hj)
      · show _ < (ups u K).getD (ups u v).length 0
        rw [hs, List.getD, List.getElem?_append_right (Nat.le_refl _), Nat.sub_self, List.getElem?_eq_getElem (by omega)]
        exact tops_high _ (List.getElem_mem _)
      · refine hcells j z ?_
        rw [hs, cellsL_app, List.getElem?_append_left ?_]
        · exact hz
        · rcases Nat.lt_or_ge j (cellsL (ups u v)).length with h | h
          · exact h
          · rw [List.getElem?_eq_none h] at hz; cases hz
      · have := hcells ((ups u v).length + j) z (by
          rw [hs, cellsL_app, List.getElem?_append_right (by simp [cellsL])]
          rw [show (ups u v).length + j - (cellsL (ups u v)).length = j by simp [cellsL]]
          exact hz)
        rw [← Nat.add_assoc] at this
        exact this
      · rintro e w' ⟨A1, c1, rfl, ho, hb⟩
        exact ⟨_, rfl, (OutAt.of_own ho (by omega)).low hlo, hb⟩

/-- n bools in a row. -/
def BoolsAt (w : World) (A : Option Addr) (n : Nat) (u : Nat → Bool) : Prop := ∀ j, j < n → ∃ b off, A = some ⟨b, off, none⟩ ∧ b < w.heap.size ∧ w.cell? ⟨b, off + j, none⟩ = some (.bool (u j))
theorem BoolsAt.below {B : Nat} {w w' : World} {A : Option Addr} {n : Nat} {u : Nat → Bool} (h : BoolsAt w A n u) (hb : Below B w w') (hB : w.heap.size ≤ B) : BoolsAt w' A n u := fun j hj => by
  obtain ⟨b, off, rfl, h1, h2⟩ := h j hj
  exact ⟨b, off, rfl, Nat.lt_of_lt_of_le h1 hb.size, (hb.cell (p := ⟨b, off + j, none⟩) (Nat.lt_of_lt_of_le h1 hB)).trans h2⟩

set_option maxRecDepth 100000 in
set_option maxHeartbeats 3200000 in
/-- The list of the true elements. -/
theorem setBits_any (A0 : Option Addr) (n c : Nat) (u : Nat → Bool) (w : World) (hn : n ≤ 100) (h : BoolsAt w A0 n u) :
    Calls Try.prog 62 #[.slice A0 n c] w fun e w' => ∃ A1 c1, e = .returned (.slice A1 (ups u n).length c1) ∧ LsAt w.heap.size w' A1 (ups u n) ∧ Below w.heap.size w w' := by
  obtain ⟨i0, ji, jz0, jz1, jz2⟩ := info_three Try.infoInt3
  have H := Lib.hid h
  clear h
  go_enter Try.func62, Try.ntmps62
  go_wp2_with fail
  go_loopg [3, 8] n (fun q lv iv wr => ∃ (k m : Nat), k + q = n ∧ iv = .int .i64 (k : Nat) ∧ Hid (m = (ups u k).length) ∧ wr.ownsRow w.heap.size 3 1 lv m (cellsL (ups u k)) ∧ Below w.heap.size w wr)
  case atStart => exact ⟨0, 0, by omega, rfl, Lib.hid rfl, ⟨rfl, .inl ⟨rfl, rfl⟩⟩, Below.refl _ _⟩
  case round =>
    obtain ⟨k, m, hk, rfl, hm, hown, hbel⟩ := hrel
    have hmk : m ≤ k := by rw [hm.out]; exact ups_le u k
    by_cases hk0 : k < n
    · obtain ⟨b, off, rfl, hb, r0⟩ := (H.out.below hbel (Nat.le_refl _)) k hk0
      have hsz := hbel.size
      cases hu : u k with
      | true =>
        have HU := Lib.hid (show ups u (k + 1) = ups u k ++ [(k : Int)] by rw [ups_succ, hu]; rfl)
        rw [hu] at r0
        clear hu
        go_wp2_with (at_builtin; refine wpList_append_own _ rfl _ _ 44 rfl w.heap.size 3 i0 (.int .i64 0) 1 8 Try.underlying44 ji jz0 jz1 jz2 rfl (by decide) _ m _ rfl (hown.alloc _) ⟨wr.heap.size, 0, none⟩ 1 1 [.int .i64 (k : Nat)] rfl rfl (cell_one_new _ _ _) (one_int _ _) (by unfold maxLen; omega) (by omega) (by simp; omega) ?_; intro v6 w6 hown6 hgrow6 _)
        go_roundg (gk - 1)
        case rel =>
          refine ⟨k + 1, m + 1, by omega, by go_num, Lib.hid (by rw [HU.out, List.length_append, ← hm.out]; rfl), ?_, (hbel.alloc hsz _).grown hgrow6 (by simp; omega) (fun r hr => (hown.lt r hr).1)⟩
          rw [HU.out, cellsL_app]
          exact hown6
        case measure => omega
      | false =>
        have HU := Lib.hid (show ups u (k + 1) = ups u k by rw [ups_succ, hu]; simp)
        rw [hu] at r0
        clear hu
        go_wp2_with fail
        go_roundg (gk - 1)
        case rel => exact ⟨k + 1, m, by omega, by go_num, Lib.hid (by rw [HU.out]; exact hm.out), by rw [HU.out]; exact hown, hbel⟩
        case measure => omega
    · obtain rfl : k = n := by omega
      rcases hown.2 with ⟨rfl, h0⟩ | ⟨g, cap, cur, rfl, h5⟩
      · have he : (ups u k).length = 0 := by rw [← hm.out]; exact h0
        go_wp2_with fail
        go_ret
        exact ⟨none, 0, by rw [he]; rfl, fun h => by omega, hbel⟩
      · have hA := (LsAt.of_own hown).2
        go_wp2_with fail
        go_ret
        exact ⟨_, cap, by rw [← hm.out]; rfl, hA, hbel⟩

end Go.Proofs.Ytmobcahfalaaeaa
