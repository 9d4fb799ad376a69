/-
  The program's scan of a text.
-/
import Derived.Test.YtcjaknojeaoffaaDoorTkC
namespace Go.Proofs.YtcjaknojeaoffaaDoor
open Go.RowKit Num

/-- The scan under way: the iterator stands at k, the tokens so far have a block of their own. -/
def ScI (s : ByteArray) (w : World) (k : Nat) (v : Value) (ts : List ByteArray) (wr : World) : Prop :=
  wr.heap[w.heap.size]? = some (.stringIter s k) ∧ wr.ownsRow (w.heap.size + 1) 9 1 v ts.length (strV ts) ∧ Below w.heap.size w wr

theorem ScI.lt {s : ByteArray} {w wr : World} {k : Nat} {v : Value} {ts : List ByteArray} (h : ScI s w k v ts wr) : w.heap.size < wr.heap.size := by
  have h1 := h.1
  rcases Nat.lt_or_ge w.heap.size wr.heap.size with h2 | h2
  · exact h2
  · rw [Array.getElem?_eq_none h2] at h1; cases h1
theorem ScI.below {s : ByteArray} {w wr w' : World} {k : Nat} {v : Value} {ts : List ByteArray} (h : ScI s w k v ts wr) (hb : Below wr.heap.size wr w') : ScI s w k v ts w' :=
  ⟨(hb.block _ h.lt).trans h.1, own_belowT h.2.1 hb (Nat.le_refl _), h.2.2.trans (hb.mono h.2.2.size)⟩
theorem ScI.push {s : ByteArray} {w wr w' : World} {k : Nat} {v v' : Value} {ts ts' : List ByteArray} (h : ScI s w k v ts wr) (hb : Below (w.heap.size + 1) wr w') (ho : w'.ownsRow (w.heap.size + 1) 9 1 v' ts'.length (strV ts')) : ScI s w k v' ts' w' :=
  ⟨(hb.block _ (Nat.lt_succ_self _)).trans h.1, ho, h.2.2.trans (hb.mono (Nat.le_succ _))⟩
theorem ScI.next {s : ByteArray} {w wr : World} {k k' : Nat} {v : Value} {ts : List ByteArray} (h : ScI s w k v ts wr) : ScI s w k' v ts (wr.iterAt w.heap.size s k') := by
  refine ⟨Lib.iterAt_heap wr _ s k k' h.1, ⟨h.2.1.1, ?_⟩, Lib.below_iterAt h.2.2 (Nat.le_refl _) s k'⟩
  rcases h.2.1.2 with h2 | ⟨b, cap, cur, rfl, h3, h4, h5⟩
  · exact .inl h2
  · exact .inr ⟨b, cap, cur, rfl, h3, (Lib.iterAt_other wr _ b s k' (by omega)).trans h4, h5⟩

theorem own_base {w : World} {base base' size : Nat} {e : TypeId} {v : Value} {n : Nat} {xs : List Value} (h : w.ownsRow base e size v n xs) (hb : base' ≤ base) : w.ownsRow base' e size v n xs := by
  refine ⟨h.1, ?_⟩
  rcases h.2 with h2 | ⟨b, cap, cur, rfl, h3, h4⟩
  · exact .inl h2
  · exact .inr ⟨b, cap, cur, rfl, Nat.le_trans hb h3, h4⟩

theorem slice_two (s : ByteArray) (a k : Nat) (h1 : a ≤ k) (h2 : k ≤ s.size) (W : World) : (Instr.slice 9 (.string s) (some (.int .i64 (a : Nat))) (some (.int .i64 (k : Nat))) none).run Tryd.prog W = .ok (.string (s.extract a k)) W := by
  rw [run_slice_string_if (P := Tryd.prog) W 9 s .i64 .i64 (a : Nat) (k : Nat) Tryd.underlying9, if_pos ⟨by omega, by omega⟩, if_pos ⟨by omega, by omega⟩]
  simp
theorem slice_from (s : ByteArray) (a : Nat) (h1 : a ≤ s.size) (W : World) : (Instr.slice 9 (.string s) (some (.int .i64 (a : Nat))) none none).run Tryd.prog W = .ok (.string (s.extract a s.size)) W := by
  rw [run_slice_string_l (P := Tryd.prog) W 9 s Tryd.underlying9 .i64 (a : Nat) (by omega) (by omega)]
  simp

theorem extract_small (s : ByteArray) (a k : Nat) : (s.extract a k).size ≤ s.size := by
  rw [ByteArray.size_extract]
  omega

set_option maxRecDepth 100000 in
set_option maxHeartbeats 6400000 in
theorem scan_any (s : ByteArray) (w : World) (hs : s.size ≤ 1048576) :
    Calls Tryd.prog 20 #[.string s] w fun e w' => ((okT s = true ∧ ∃ v, e = .returned (.tuple #[v, .nilIface]) ∧ w'.ownsRow w.heap.size 9 1 v (resT s).length (strV (resT s))) ∨ (okT s = false ∧ ∃ x, e = .returned (.tuple #[.slice none 0 0, .iface 60 x]))) ∧ Below w.heap.size w w' := by
  have CA : Hid (∀ (v : Value) (ts : List ByteArray) (p : ByteArray) (W : World), p.size ≤ 1048576 → ts.length ≤ 1048576 → w.heap.size + 1 ≤ W.heap.size → W.ownsRow (w.heap.size + 1) 9 1 v ts.length (strV ts) → _) := Lib.hid fun v ts p W => appTok_any (w.heap.size + 1) v ts p W
  by_cases h1 : s.size ≤ 6000
  · have h1' : ¬ (6000 : Int) < (s.size : Int) := by omega
    have CR : Hid (∀ (x : Int) W, 0 ≤ x → _) := Lib.hid fun x W h => containsRune_any x W h
    have CW : Hid (∀ (x : Int) W, _) := Lib.hid fun x W => wordRune_any x W
    have CT : Hid (∀ (a b : Int) W, _) := Lib.hid fun a b W => together_any a b W
    simp only [setS] at CR
    go_enter Tryd.func20, Tryd.ntmps20
    go_wp2_with fail
    go_loopg [4, 5, 6] s.size (fun q v a b wr => ∃ k : Nat, k + q = s.size ∧ ScI s w k v (stT s k).2 wr ∧ a = .int .i64 ((stT s k).1 : Nat) ∧ b = .int .i32 (la s k) ∧ Hid (∀ j, j < k → okB (bt s j) = true))
    case atStart => exact ⟨0, by omega, ⟨World.iter_heap w s 0, World.ownsRow_nil _ _ _ _, (Below.refl _ w).alloc (Nat.le_refl _) _⟩, rfl, rfl, Lib.hid fun j h => by omega⟩
    case round =>
      obtain ⟨k, hk, hI, rfl, rfl, hq⟩ := hrel
      have hst := stT_le s k
      have hsl := stT_len s k
      by_cases hk0 : k < s.size
      · cases hok : okB (bt s k) with
        | true =>
          have hlo := okB_low hok
          have hbk := bt_at hk0
          have hnn := bt_nonneg s k
          have hnx := fun ty => Lib.run_next_ascii_at (P := Tryd.prog) wr w.heap.size s k ty hI.1 hk0 (by omega)
          rw [← hbk] at hnx
          obtain ⟨wn, hwn⟩ : ∃ wn, wn = wr.iterAt w.heap.size s (k + 1) := ⟨_, rfl⟩
          have hIn : ScI s w (k + 1) u4 (stT s k).2 wn := by rw [hwn]; exact hI.next
          rw [← hwn] at hnx
          obtain ⟨x, hx⟩ : ∃ x, x = bt s k := ⟨_, rfl⟩
          obtain ⟨y, hy⟩ : ∃ y, y = la s k := ⟨_, rfl⟩
          obtain ⟨a, ha⟩ : ∃ a, a = (stT s k).1 := ⟨_, rfl⟩
          obtain ⟨ts, hts⟩ : ∃ ts, ts = (stT s k).2 := ⟨_, rfl⟩
          have hla : la s (k + 1) = x := by rw [la, if_neg (by omega), hx]; rfl
          have hjoin : Hid (tg y x = true → stT s (k + 1) = stT s k) := Lib.hid fun h => stT_join (by rw [← hx, ← hy]; exact h)
          have hcut : Hid (tg y x = false → stT s (k + 1) = (k, pushT ts (s.extract a k))) := Lib.hid fun h => by rw [stT_cut (by rw [← hx, ← hy]; exact h), finT, ha, hts]
          have hsc := slice_two s a k (by omega) (by omega)
          have hpz := extract_small s a k
          rw [← hx] at hnx hok hnn
          rw [← ha] at hst ⊢
          rw [← hts] at hsl hIn
          rw [← hy]
          have hset : Hid (isW x = false → inSet x = true) := Lib.hid fun h => by rw [okB, h, Bool.false_or] at hok; exact hok
          have hq' : Hid (∀ j, j < k + 1 → okB (bt s j) = true) := Lib.hid fun j hj => by
            by_cases hjk : j < k
            · exact hq.out j hjk
            · obtain rfl : j = k := by omega
              rw [← hx]; exact hok
          have HLA := Lib.hid hla
          have HA := Lib.hid ha
          have HTS := Lib.hid hts
          clear hx hy ha hts hla hbk hlo hok hwn hI
          have hend : Hid (∀ v' ts' a' W, stT s (k + 1) = (a', ts') → ScI s w (k + 1) v' ts' W → True) := Lib.hid fun _ _ _ _ _ _ => trivial
          cases hw : isW x with
          | true =>
            cases ht : tg y x with
            | true =>
              go_wp2_with (first
                | (go_at_call 34; refine (CW.out _ _).mono ?_; rintro e w1 ⟨rfl, rfl⟩)
                | (go_at_call 36; refine (CT.out _ _ _).mono ?_; rintro e w1 ⟨rfl, rfl⟩))
              go_roundg (gk - 1)
              case rel => exact ⟨k + 1, by omega, by rw [hjoin.out ht, ← HTS.out]; exact hIn, by rw [hjoin.out ht, HA.out], by rw [HLA.out], hq'⟩
              case measure => omega
            | false =>
              go_wp2_with (first
                | (go_at_call 34; refine (CW.out _ _).mono ?_; rintro e w1 ⟨rfl, rfl⟩)
                | (go_at_call 36; refine (CT.out _ _ _).mono ?_; rintro e w1 ⟨rfl, rfl⟩)
                | (go_at_call 37; refine (CA.out _ _ _ _ (by omega) (by omega) hIn.lt hIn.2.1).mono ?_; rintro e w3 ⟨⟨v', rfl, ho⟩, hb⟩; have hI3 := hIn.push hb ho; clear ho hb))
              go_roundg (gk - 1)
              case rel => exact ⟨k + 1, by omega, by rw [hcut.out ht]; exact hI3, by rw [hcut.out ht], by rw [HLA.out], hq'⟩
              case measure => omega
          | false =>
            have hs1 := hset.out hw
            cases ht : tg y x with
            | true =>
              go_wp2_with (first
                | (go_at_call 34; refine (CW.out _ _).mono ?_; rintro e w1 ⟨rfl, rfl⟩)
                | (go_at_call 35; refine (CR.out _ _ hnn.1).mono ?_; rintro e w2 ⟨rfl, hb2⟩; replace hIn := hIn.below hb2; clear hb2)
                | (go_at_call 36; refine (CT.out _ _ _).mono ?_; rintro e w1 ⟨rfl, rfl⟩))
              go_roundg (gk - 1)
              case rel => exact ⟨k + 1, by omega, by rw [hjoin.out ht, ← HTS.out]; exact hIn, by rw [hjoin.out ht, HA.out], by rw [HLA.out], hq'⟩
              case measure => omega
            | false =>
              go_wp2_with (first
                | (go_at_call 34; refine (CW.out _ _).mono ?_; rintro e w1 ⟨rfl, rfl⟩)
                | (go_at_call 35; refine (CR.out _ _ hnn.1).mono ?_; rintro e w2 ⟨rfl, hb2⟩; replace hIn := hIn.below hb2; clear hb2)
                | (go_at_call 36; refine (CT.out _ _ _).mono ?_; rintro e w1 ⟨rfl, rfl⟩)
                | (go_at_call 37; refine (CA.out _ _ _ _ (by omega) (by omega) hIn.lt hIn.2.1).mono ?_; rintro e w3 ⟨⟨v', rfl, ho⟩, hb⟩; have hI3 := hIn.push hb ho; clear ho hb))
              go_roundg (gk - 1)
              case rel => exact ⟨k + 1, by omega, by rw [hcut.out ht]; exact hI3, by rw [hcut.out ht], by rw [HLA.out], hq'⟩
              case measure => omega
        | false =>
          have HO : Hid (okT s = false) := Lib.hid (by
            cases h : okT s with
            | false => rfl
            | true => have := ((okT_iff s).1 h).2 k hk0; rw [hok] at this; cases this)
          obtain ⟨r, wn, hnx, hIn, hr0, hr1, hr2⟩ : ∃ (r : Int) (wn : World), (∀ ty, (Instr.next (.pointer (some ⟨w.heap.size, 0, none⟩)) true ty).run Tryd.prog wr = .ok (.tuple #[.bool true, .int .i64 k, .int .i32 r]) wn) ∧ (∃ k', ScI s w k' u4 (stT s k).2 wn) ∧ 0 ≤ r ∧ isW r = false ∧ inSet r = false := by
            have hbk := bt_at hk0
            by_cases hlo : (s[k]'hk0).toNat < 128
            · have h2 := hok
              rw [okB, Bool.or_eq_false_iff] at h2
              exact ⟨bt s k, _, fun ty => by rw [Lib.run_next_ascii_at (P := Tryd.prog) wr w.heap.size s k ty hI.1 hk0 hlo, hbk], ⟨_, hI.next⟩, (bt_nonneg s k).1, h2.1, h2.2⟩
            · have hd := decode_high s k hk0 (by omega)
              refine ⟨((Utf8.decode s k).1 : Nat), _, fun ty => Lib.run_next_any_at (P := Tryd.prog) wr w.heap.size s k ty hI.1 hk0, ⟨_, hI.next⟩, by omega, ?_, ?_⟩
              · simp [isW]; omega
              · rw [inSet, decide_eq_false (by omega), Bool.false_and]
          obtain ⟨k', hIn⟩ := hIn
          clear hok hI
          go_wp2_with (first
            | (go_at_call 34; refine (CW.out _ _).mono ?_; rintro e w1 ⟨rfl, rfl⟩)
            | (go_at_call 35; refine (CR.out _ _ hr0).mono ?_; rintro e w2 ⟨rfl, hb2⟩; replace hIn := hIn.below hb2; clear hb2))
          go_ret2
          exact ⟨.inr ⟨HO.out, _, rfl⟩, hIn.2.2⟩
      · obtain rfl : k = s.size := by omega
        have hnx := fun ty => Lib.run_next_end_at (P := Tryd.prog) wr w.heap.size s s.size ty hI.1 (by omega)
        obtain ⟨a, ha⟩ : ∃ a, a = (stT s s.size).1 := ⟨_, rfl⟩
        obtain ⟨ts, hts⟩ : ∃ ts, ts = (stT s s.size).2 := ⟨_, rfl⟩
        have HO : Hid (okT s = true) := Lib.hid ((okT_iff s).2 ⟨h1, hq.out⟩)
        have HRS : Hid (resT s = pushT ts (s.extract a s.size)) := Lib.hid (by rw [resT, if_pos HO.out, finT, ha, hts])
        have hpz := extract_small s a s.size
        rw [← ha] at hst ⊢
        rw [← hts] at hsl hI
        clear ha hts
        have hsf := slice_from s a hst
        go_wp2_with (go_at_call 37; refine (CA.out _ _ _ _ (by omega) (by omega) hI.lt hI.2.1).mono ?_; rintro e w3 ⟨⟨v', rfl, ho⟩, hb⟩; have hI3 := hI.push hb ho; clear ho hb)
        go_ret2
        exact ⟨.inl ⟨HO.out, v', rfl, by rw [HRS.out]; exact own_base hI3.2.1 (Nat.le_succ _)⟩, hI3.2.2⟩
  · have h1' : (6000 : Int) < (s.size : Int) := by omega
    have HO : Hid (okT s = false) := Lib.hid (by cases h : okT s with | false => rfl | true => exact absurd ((okT_iff s).1 h).1 h1)
    go_enter Tryd.func20, Tryd.ntmps20
    go_wp2_with fail
    go_ret2
    exact ⟨.inr ⟨HO.out, _, rfl⟩, Below.refl _ _⟩

end Go.Proofs.YtcjaknojeaoffaaDoor
