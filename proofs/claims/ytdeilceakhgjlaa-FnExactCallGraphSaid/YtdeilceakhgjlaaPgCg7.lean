/-
  An answer that is a list of lists: equal, marked, and holding its marks.
-/
import Derived.Test.YtdeilceakhgjlaaPgCg3
import Derived.Test.YtdeilceakhgjlaaPgMk3
import Derived.Test.YtdeilceakhgjlaaPgEq
namespace Go.Proofs.Ytdeilceakhgjlaa
open Go.RowKit Num

/-- n lists of ints, in blocks of their own. -/
def GrN (lo : Nat) (w : World) (v : Value) (n : Nat) (L : Nat → List Int) : Prop := (n = 0 ∧ v = .slice none 0 0) ∨ ∃ g c xs, v = .slice (some ⟨g, 0, none⟩) n c ∧ w.ownsRow lo 26 1 v n xs ∧ (∀ j, j < n → ∃ x, xs[j]? = some x ∧ OutT lo w x (L j)) ∧ Rising xs
theorem GrAt.toN {lo : Nat} {w : World} {v : Value} {P : Prg} (h : GrAt lo w v P) : GrN lo w v (P.np + 1) (fun j => ups (gr P j) 3) := .inr h
theorem GrN.below {lo B : Nat} {w w' : World} {v : Value} {n : Nat} {L : Nat → List Int} (h : GrN lo w v n L) (hb : Below B w w') (hB : w.heap.size ≤ B) : GrN lo w' v n L := by
  rcases h with h | ⟨g, c, xs, rfl, h1, h2, hi⟩
  · exact .inl h
  · refine .inr ⟨g, c, xs, rfl, own_keeps h1 hb hB, fun j hj => ?_, hi⟩
    obtain ⟨x, h3, h4⟩ := h2 j hj
    exact ⟨x, h3, h4.below hb hB⟩
theorem own_keep {lo size n : Nat} {e : TypeId} {w w' : World} {v : Value} {xs : List Value} (h : w.ownsRow lo e size v n xs) (k : Keeps lo w w') : w'.ownsRow lo e size v n xs := by
  refine ⟨h.1, ?_⟩
  rcases h.2 with h2 | ⟨b, cap, cur, rfl, h3, h4, h5⟩
  · exact .inl h2
  · exact .inr ⟨b, cap, cur, rfl, h3, (k.2 b h3 (heap_lt h4)).trans h4, h5⟩
theorem OutT.keep {lo : Nat} {w w' : World} {v : Value} {xs : List Int} (h : OutT lo w v xs) (k : Keeps lo w w') : OutT lo w' v xs := by
  rcases h with h | ⟨h0, h1⟩
  · exact .inl h
  · exact .inr ⟨h0, own_keep h1 k⟩
theorem GrN.keep {lo : Nat} {w w' : World} {v : Value} {n : Nat} {L : Nat → List Int} (h : GrN lo w v n L) (k : Keeps lo w w') : GrN lo w' v n L := by
  rcases h with h | ⟨g, c, xs, rfl, h1, h2, hi⟩
  · exact .inl h
  · refine .inr ⟨g, c, xs, rfl, own_keep h1 k, fun j hj => ?_, hi⟩
    obtain ⟨x, h3, h4⟩ := h2 j hj
    exact ⟨x, h3, h4.keep k⟩
/-- The list as a slice. -/
theorem GrN.sl {lo : Nat} {w : World} {v : Value} {n : Nat} {L : Nat → List Int} (h : GrN lo w v n L) : ∃ A c, v = .slice A n c := by
  rcases h with ⟨rfl, rfl⟩ | ⟨g, c, xs, rfl, _⟩
  · exact ⟨none, 0, rfl⟩
  · exact ⟨_, c, rfl⟩
/-- One of the lists. -/
theorem GrN.row {lo : Nat} {w : World} {A0 : Option Addr} {n c0 : Nat} {L : Nat → List Int} (h : GrN lo w (.slice A0 n c0) n L) {j : Nat} (hj : j < n) : ∃ g A c, A0 = some ⟨g, 0, none⟩ ∧ (lo ≤ g ∧ g < w.heap.size) ∧ w.cell? ⟨g, j, none⟩ = some (.slice A (L j).length c) ∧ OutT lo w (.slice A (L j).length c) (L j) := by
  rcases h with ⟨rfl, _⟩ | ⟨g, cap, xs, e, h1, h2, _⟩
  · omega
  · injection e with e0 _ e1
    subst e0 e1
    obtain ⟨x, h3, h4⟩ := h2 j hj
    obtain ⟨A, c, rfl, _⟩ := h4.open
    exact ⟨g, A, c, rfl, h1.lt g rfl, grow_at h1 h3, h4⟩

theorem holg2 {p0 p1 K : Prop} (h : p0 ∧ p1 ∧ K) : K := h.2.2

set_option maxRecDepth 100000 in
set_option maxHeartbeats 3200000 in
theorem eqIntSS_any (lo lo' : Nat) (v u : Value) (n : Nat) (L : Nat → List Int) (w : World) (hn : n ≤ 1000) (hL : ∀ j, (L j).length ≤ 1000) (h : GrN lo w v n L) (k : GrN lo' w u n L) :
    Calls Try.prog 14 #[v, u] w fun e w' => e = .returned (.bool true) ∧ Below w.heap.size w w' := by
  obtain ⟨A0, c0, rfl⟩ := h.sl
  obtain ⟨A1, c1, rfl⟩ := k.sl
  have H := Lib.hid h
  have K := Lib.hid k
  have HL := Lib.hid hL
  have nb : ((n : Int) != (n : Int)) = false := bne_self_eq_false _
  clear h k hL
  go_enter Try.func14, Try.ntmps14
  go_wp2_with fail
  clear nb
  go_loopg [5] n (fun q iv wr => ∃ k : Nat, k + q = n ∧ iv = .int .i64 (k : Nat) ∧ Below w.heap.size w wr)
  case atStart => exact ⟨0, by omega, rfl, Below.refl _ _⟩
  case round =>
    obtain ⟨k, hk, rfl, hbel⟩ := hrel
    by_cases hk0 : k < n
    · obtain ⟨g, A, c, rfl, hg, s0, hr⟩ := (H.out.below hbel (Nat.le_refl _)).row hk0
      obtain ⟨g', A', c', rfl, hg', s1, hr'⟩ := (K.out.below hbel (Nat.le_refl _)).row hk0
      obtain ⟨_, _, e1, _, hl1⟩ := hr.open
      obtain ⟨_, _, e2, _, hl2⟩ := hr'.open
      injection e1 with e1 _ e3
      subst e1 e3
      injection e2 with e1 _ e3
      subst e1 e3
      have hl := HL.out k
      have CE := Lib.hid (fun (W : World) (hw : Below wr.heap.size wr W) => eqIntS_any lo lo' _ _ (L k).length c c' (fun j => (L k).getD j 0) W (by omega) (LsAt.below hl1 hw (Nat.le_refl _)) (LsAt.below hl2 hw (Nat.le_refl _)))
      generalize (L k).length = m at s0 s1 CE
      clear hr hr' hl1 hl2 hl
      have hki : (k : Int) < (n : Int) := by omega
      go_upto_region 6 with fail
      go_region_held3 (fun w' => w'.cell? ⟨g, k, none⟩ = some (.slice A m c) ∧ w'.cell? ⟨g', k, none⟩ = some (.slice A' m c') ∧ Below wr.heap.size wr w')
        ((suffices hBB : Below wr.heap.size wr _ from ⟨(hBB.cell (p := ⟨g, k, none⟩) hg.2).trans s0, (hBB.cell (p := ⟨g', k, none⟩) hg'.2).trans s1, hBB⟩; first | exact (Below.refl _ wr).drew | exact holg2 (by assumption) | (refine stepB (holg2 (by assumption)) ?_; assumption)))
        (first | (go_at_call 41; refine (CE.out _ (holg2 (by assumption))).mono ?_; rintro e w8 ⟨rfl, hb8⟩))
      have hb9 : Below wr.heap.size wr _ := holg2 (by assumption)
      go_wp2_with fail
      go_roundg (gk - 1)
      case rel => exact ⟨k + 1, by omega, by go_num, hbel.trans (hb9.mono hbel.size)⟩
      case measure => omega
    · obtain rfl : k = n := by omega
      go_wp2_with fail
      go_ret
      exact ⟨rfl, hbel⟩

end Go.Proofs.Ytdeilceakhgjlaa
