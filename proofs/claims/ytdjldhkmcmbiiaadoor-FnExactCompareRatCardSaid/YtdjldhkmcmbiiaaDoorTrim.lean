/-
  The model's trimming of leading zeros, and its conversion of an int.
-/
import Derived.Test.YtdjldhkmcmbiiaaDoorCmp
namespace Go.Proofs.YtdjldhkmcmbiiaaDoor
open Go.RowKit Num

theorem Tryd.info_int : (Tryd.prog.info? 3).map (fun i => (i.zero, i.size, i.bytes)) = some (some (.int .i64 0), 1, 8) := by kernel_rfl

set_option maxHeartbeats 400000 in
theorem trim_row (b off n cap m : Nat) (d : Nat → Nat) (w : World) (hn : n ≤ cap) (hcap : cap ≤ maxLen) (hm : m ≤ n)
    (hA : ∀ j, j < n → w.cell? ⟨b, off + j, none⟩ = some (.int .i64 (d j : Nat))) (hz : ∀ j, m ≤ j → j < n → d j = 0) (hnz : 0 < m → d (m - 1) ≠ 0) :
    Calls Tryd.prog 94 #[.slice (some ⟨b, off, none⟩) n cap] w fun e w' => e = .returned (.slice (some ⟨b, off, none⟩) m cap) ∧ w = w' := by
  unfold maxLen at hcap
  have HA := Lib.hid hA; clear hA
  have HZ := Lib.hid hz; clear hz
  have HNZ := Lib.hid hnz; clear hnz
  go_enter Tryd.func94, Tryd.ntmps94
  go_wp2_with fail
  go_loop [0] (fun v => ∃ k : Nat, m ≤ k ∧ k ≤ n ∧ v = .slice (some ⟨b, off, none⟩) k cap) (fun v => match v with | .slice _ k _ => k | _ => 0)
  case atStart => exact ⟨n, by omega, by omega, rfl⟩
  case round =>
    obtain ⟨k, hk1, hk2, rfl⟩ := hrel
    by_cases hk0 : 0 < k
    · have h1 : w.cell? ⟨b, off + (k - 1), none⟩ = some (.int .i64 (d (k - 1) : Nat)) := HA.out (k - 1) (by omega)
      by_cases hkm : k = m
      · have h2 := HNZ.out (by omega)
        subst hkm
        have h3 : ((d (k - 1) : Int) == 0) = false := by rw [beq_eq_false_iff_ne]; omega
        go_wp2_with fail
        go_ret
        exact ⟨rfl, rfl⟩
      · have h2 := HZ.out (k - 1) (by omega) (by omega)
        have h3 : ((d (k - 1) : Int) == 0) = true := by rw [beq_iff_eq]; omega
        have H2 := Lib.hid h2; clear h2
        go_wp2_with fail
        go_round
        case rel => exact ⟨k - 1, by omega, by omega, rfl⟩
        case measure => simp; omega
    · obtain rfl : k = 0 := by omega
      obtain rfl : m = 0 := by omega
      go_wp2_with fail
      go_ret
      exact ⟨rfl, rfl⟩

set_option maxHeartbeats 400000 in
theorem trim_nil (w : World) :
    Calls Tryd.prog 94 #[.slice none 0 0] w fun e w' => e = .returned (.slice none 0 0) ∧ w = w' := by
  go_enter Tryd.func94, Tryd.ntmps94
  go_wp2_with fail
  refine wp_loop_rounds 1 ?_
  rw [rounds_succ]
  go_wp2_with fail
  go_ret
  exact ⟨rfl, rfl⟩

theorem top_nonzero (d : Nat → Nat) (n : Nat) : ∃ m, m ≤ n ∧ (∀ j, m ≤ j → j < n → d j = 0) ∧ (0 < m → d (m - 1) ≠ 0) := top_diff d (fun _ => 0) n

theorem RowF.congr {t : TypeId} {k : IntKind} {w : World} {v : Value} {n : Nat} {d e : Nat → Nat} (h : RowF t k w v n d) (he : ∀ j, j < n → d j = e j) : RowF t k w v n e := by
  rcases h with h | ⟨b, off, cap, rfl, h1, h2, h3, h4⟩
  · exact .inl h
  · exact .inr ⟨b, off, cap, rfl, h1, h2, h3, fun j hj => by rw [h4 j hj, he j hj]⟩

/-- The digits that trimming leaves. -/
theorem strip_row {t : TypeId} {k : IntKind} {b : Nat} (hb : 2 ≤ b) {w : World} {v : Value} {m : Nat} (xs : List Nat) (hd : Dig b xs) (hm : m ≤ xs.length) (hz : ∀ j, m ≤ j → j < xs.length → xs.getD j 0 = 0) (hnz : 0 < m → xs.getD (m - 1) 0 ≠ 0)
    (h : RowF t k w v m fun j => xs.getD j 0) : Nums t k b w v (val b xs) := by
  have e := strip b hb xs hd m hm (fun j hj hmj => by rw [← getD_eq _ _ hj]; exact hz j hmj hj) (fun h0 => by rw [← getD_eq _ _ (by omega)]; exact hnz h0)
  have hl : ln b (val b xs) = m := by rw [ln, ← e, List.length_take]; omega
  unfold Nums
  rw [hl]
  refine h.congr fun j hj => ?_
  rw [← e]
  simp [List.getD, hj]

/-- Trimming a row of digits: the result is the number, in the same block. -/
theorem trim_at (v : Value) (xs : List Nat) (w : World) (hd : Dig 10000 xs) (h : RowF 3 .i64 w v xs.length fun j => xs.getD j 0) :
    Calls Tryd.prog 94 #[v] w fun e w' => (∃ v', e = .returned v' ∧ Nums 3 .i64 10000 w v' (val 10000 xs) ∧ v'.ownBlock = v.ownBlock) ∧ w = w' := by
  rcases h with ⟨rfl, h0⟩ | ⟨b, off, cap, rfl, h1, h2, h3, h4⟩
  · have hx : xs = [] := List.eq_nil_of_length_eq_zero h0
    subst hx
    exact (trim_nil w).mono fun e w' ⟨he, hw⟩ => ⟨⟨_, he, .inl ⟨rfl, rfl⟩, rfl⟩, hw⟩
  · obtain ⟨m, hm, hz, hnz⟩ := top_nonzero (fun j => xs.getD j 0) xs.length
    refine (trim_row b off xs.length cap m _ w h1 h2 hm h4 hz hnz).mono fun e w' ⟨he, hw⟩ => ⟨⟨_, he, ?_, rfl⟩, hw⟩
    exact strip_row (by omega) xs hd hm hz hnz (.inr ⟨b, off, cap, rfl, by omega, h2, h3, fun j hj => h4 j (by omega)⟩)

/-- Trimming a row of digits: the result is the number. -/
theorem trim_any (v : Value) (xs : List Nat) (w : World) (hd : Dig 10000 xs) (h : RowF 3 .i64 w v xs.length fun j => xs.getD j 0) :
    Calls Tryd.prog 94 #[v] w fun e w' => (∃ v', e = .returned v' ∧ Nums 3 .i64 10000 w v' (val 10000 xs)) ∧ w = w' :=
  (trim_at v xs w hd h).mono fun _ _ ⟨⟨v', he, hn, _⟩, hw⟩ => ⟨⟨v', he, hn⟩, hw⟩

/-- A row of the call's own reads as its numbers. -/
theorem rowF_own {k : IntKind} {w : World} {base : Nat} {e : TypeId} {v : Value} {n : Nat} (xs : List Nat) (hn : xs.length = n) (h : w.ownsRow base e 1 v n (xs.map fun x => .int k (x : Nat))) : RowF e k w v n fun j => xs.getD j 0 := by
  subst hn
  rcases h.2 with ⟨rfl, h0⟩ | ⟨g, cap, cur, rfl, hb, hg, h1, h2, h3, h4⟩
  · exact .inl ⟨rfl, h0⟩
  · refine .inr ⟨g, 0, cap, rfl, h1, h2, ⟨cur, hg⟩, fun j hj => ?_⟩
    have hc := h.cells (g := g) rfl j (.int k ((xs.getD j 0 : Nat) : Int)) (by rw [List.getElem?_map, List.getElem?_eq_getElem hj, getD_eq _ _ hj]; rfl)
    have hadd : (⟨g, 0, none⟩ : Addr).add j = ⟨g, 0 + j, none⟩ := by unfold Addr.add; split <;> simp_all
    rw [← hadd]; exact hc

theorem nums_own {k : IntKind} {b : Nat} (hb : 2 ≤ b) {w : World} {base : Nat} {e : TypeId} {v : Value} {n : Nat} (xs : List Nat) (hn : xs.length = n) (hd : Dig b xs) (hlo : xs ≠ [] → b ^ (xs.length - 1) ≤ val b xs) (h : w.ownsRow base e 1 v n (xs.map fun x => .int k (x : Nat))) : Nums e k b w v (val b xs) := by
  have e1 := digs_val b hb xs hd hlo
  unfold Nums
  rw [show ln b (val b xs) = xs.length from by rw [ln, e1], e1]
  exact rowF_own xs rfl (by subst hn; exact h)

end Go.Proofs.YtdjldhkmcmbiiaaDoor
