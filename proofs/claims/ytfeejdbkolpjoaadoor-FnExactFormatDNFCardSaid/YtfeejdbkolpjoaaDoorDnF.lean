/-
  The program's form of a truth table; the law.
-/
import Derived.Test.YtfeejdbkolpjoaaDoorDnE
import Derived.Maps.AppendAt
import Derived.OwnWalk
import Derived.Laws.AppendOwn
namespace Go.Proofs.YtfeejdbkolpjoaaDoor
open Go.RowKit Num

theorem asg_any (i n : Nat) (w : World) (hi : i ≤ 1048576) (hn : n ≤ 1024) :
    Calls Tryd.prog 10 #[.int .i64 (i : Nat), .int .i64 (n : Nat)] w fun e W' => e = .returned (.string ⟨(bin n i).toArray⟩) ∧ Below w.heap.size w W' :=
  callsIn_wide.1 (asg_in i n w hi hn)

theorem own_belowD {w w' : World} {B base size : Nat} {e : TypeId} {v : Value} {n : Nat} {xs : List Value} (h : w.ownsRow base e size v n xs) (hb : Below B w w') (hB : w.heap.size ≤ B) : w'.ownsRow base e size v n xs := by
  refine ⟨h.1, ?_⟩
  rcases h.2 with h2 | ⟨b, cap, cur, rfl, h3, h4, h5⟩
  · exact .inl h2
  · exact .inr ⟨b, cap, cur, rfl, h3, (hb.block b (Nat.lt_of_lt_of_le (heap_lt h4) hB)).trans h4, h5⟩

theorem below_grownD {B : Nat} {w wr w1 : World} {o : Obj} {v : Value} {base : Nat} {e : TypeId} {n : Nat} {xs : List Value} (hbel : Below B w wr) (hB : B ≤ wr.heap.size) (hbase : B ≤ base) (hown : wr.ownsRow base e 1 v n xs) (hgrow : (wr.alloc o).grownBy w1 v.ownBlock) : Below B w w1 :=
  (hbel.alloc hB o).grown hgrow (by simp; omega) fun k hk => by
    rcases hown.2 with ⟨rfl, _⟩ | ⟨g, _, _, rfl, h3, _⟩
    · simp [Value.ownBlock] at hk
    · obtain rfl : g = k := by simpa [Value.ownBlock] using hk
      omega

theorem Tryd.infoStrD : (Tryd.prog.info? 9).map (fun i => (i.zero, i.size, i.bytes)) = some (some (.string ⟨#[]⟩), 1, 16) := by kernel_rfl

/-- The terms as values. -/
def termV (ts : List (List UInt8)) : List Value := ts.map fun t => Value.string ⟨t.toArray⟩

theorem terms_count (s : ByteArray) (n : Nat) : ∀ k, (terms s n k).length ≤ k
  | 0 => by simp [terms]
  | k + 1 => by
    have ih := terms_count s n k
    by_cases h : s.data[k]? = some 49
    · rw [terms_one h, List.length_append]; simp; omega
    · rw [terms_zero h]; omega

set_option maxRecDepth 100000 in
set_option maxHeartbeats 3200000 in
theorem implDnf_no (s : ByteArray) (w : World) (hs : s.size ≤ 1048576) (h : ∀ n, ¬ Tb s n) :
    Calls Tryd.prog 5 #[.string s] w fun e w' => e = .returned (.tuple #[.string (dnfR s).1, .bool (dnfR s).2]) ∧ Below w.heap.size w w' := by
  have C := Lib.hid (isTable_any s w hs)
  have H := Lib.hid h
  clear h
  go_enter Tryd.func5, Tryd.ntmps5
  go_wp2_with (go_at_call 8; refine C.out.mono ?_; rintro e w1 ⟨r, rfl, hr, hb1⟩; obtain rfl : r = false := (by cases r with | false => rfl | true => exact (H.out _ (hr.out.1 rfl).choose_spec).elim))
  go_ret2
  exact ⟨by rw [dnfR_no H.out]; rfl, hb1⟩

set_option maxRecDepth 100000 in
set_option maxHeartbeats 6400000 in
theorem implDnf_yes (s : ByteArray) (n : Nat) (w : World) (hs : s.size ≤ 1048576) (h : Tb s n) (hT : TabD w) :
    Calls Tryd.prog 5 #[.string s] w fun e w' => e = .returned (.tuple #[.string (dnfR s).1, .bool (dnfR s).2]) ∧ Below w.heap.size w w' := by
  obtain ⟨i0, hi, hz0, hz1, hz2⟩ := info_parts Tryd.infoStrD
  have C := Lib.hid (isTable_any s w hs)
  have C1 : Hid (∀ W, _) := Lib.hid fun W => clone_any s W (by omega)
  have H := Lib.hid h
  have hn10 := h.1
  have hs10 : s.size ≤ 1024 := by rw [h.2.1]; exact Nat.le_trans (Nat.pow_le_pow_right (by omega) h.1) (by decide)
  have C2 : Hid (∀ (k : Nat) W, k ≤ 1048576 → _) := Lib.hid fun k W hk => asg_any k n W hk (by omega)
  have C3 : Hid (∀ W, Below w.heap.size w W → _) := Lib.hid fun W hW => tz_any s.size n W hn10 h.2.1 (hT.below hW)
  clear h hT
  have HR := Lib.hid (dnfR_yes H.out)
  have wx : IntKind.u64.wrap (s.size : Int) = (s.size : Int) := IntWalk.u64_in _ (by omega)
  by_cases hn : n = 0
  · subst hn
    have f1 : (((s.size : Nat) : Int) == 1) = true := by rw [H.out.2.1]; rfl
    go_enter Tryd.func5, Tryd.ntmps5
    go_wp2_with (first
      | (go_at_call 8; refine C.out.mono ?_; rintro e w1 ⟨r, rfl, hr, hb1⟩; obtain rfl : r = true := hr.out.2 ⟨0, H.out⟩)
      | (go_at_call 9; refine (C1.out _).mono ?_; rintro e w2 ⟨rfl, hb2⟩))
    go_ret2
    exact ⟨by rw [HR.out]; rfl, hb1.trans (hb2.mono hb1.size)⟩
  · have f1 : (((s.size : Nat) : Int) == 1) = false := by
      rw [beq_eq_false_iff_ne]
      intro e
      have h2 : s.size = 2 ^ n := H.out.2.1
      have := pow_inj (a := n) (b := 0) (by omega)
      omega
    go_enter Tryd.func5, Tryd.ntmps5
    go_wp2_with (go_at_call 8; refine C.out.mono ?_; rintro e w1 ⟨r, rfl, hr, hb1⟩; obtain rfl : r = true := hr.out.2 ⟨n, H.out⟩; clear hr)
    go_loopg [4, 16] s.size (fun q v iv wr => ∃ k : Nat, k + q = s.size ∧ wr.ownsRow w.heap.size 9 1 v (terms s n k).length (termV (terms s n k)) ∧ iv = .int .i64 (k : Nat) ∧ Below w.heap.size w wr)
    case atStart => exact ⟨0, by omega, World.ownsRow_nil _ _ _ _, rfl, hb1⟩
    case round =>
      obtain ⟨k, hk, hown, rfl, hbel⟩ := hrel
      have htc := terms_count s n k
      by_cases hk0 : k < s.size
      · have hb := Lib.hid (byte_at hk0)
        rcases H.out.2.2 k _ hb.out with e0 | e1
        · have f2 : (((s[k]'hk0).toNat : Int) == 49) = false := by rw [e0]; rfl
          have HZ : Hid (s.data[k]? ≠ some 49) := Lib.hid (by have h := hb.out; rw [Array.getElem?_toList] at h; rw [h, e0]; decide)
          clear e0
          go_wp2_with fail
          go_roundg (gk - 1)
          case rel => exact ⟨k + 1, by omega, by rw [terms_zero HZ.out]; exact hown, by go_num, hbel⟩
          case measure => omega
        · have f2 : (((s[k]'hk0).toNat : Int) == 49) = true := by rw [e1]; rfl
          have HZ : Hid (s.data[k]? = some 49) := Lib.hid (by have h := hb.out; rw [Array.getElem?_toList] at h; rw [h, e1])
          clear e1
          go_wp2_with (first
            | (go_at_call 11; refine (C3.out _ hbel).mono ?_; rintro e w2 ⟨rfl, rfl⟩)
            | (go_at_call 10; refine (C2.out k _ (by omega)).mono ?_; rintro e w2 ⟨rfl, hb2⟩; have hB := hbel.trans (hb2.mono hbel.size); have hown2 := own_belowD hown hb2 (Nat.le_refl _))
            | (at_builtin; refine wpList_append_own _ rfl _ _ 28 rfl w.heap.size 9 i0 (.string ⟨#[]⟩) 1 16 Tryd.underlying28 hi hz0 hz1 hz2 rfl (by decide) _ _ _ rfl (hown2.alloc _) ⟨w2.heap.size, 0, none⟩ 1 1 [.string ⟨(bin n k).toArray⟩] rfl rfl (cell_one_new _ _ _) (by intro u hu; simp at hu; subst hu; rfl) (by unfold maxLen; omega) (by omega) (by have := hB.size; simp; omega) ?_))
          intro v' w3 hown' hgrow _
          have hB3 := below_grownD hB hB.size (Nat.le_refl _) hown2 hgrow
          clear hgrow
          go_wp2_with fail
          go_roundg (gk - 1)
          case rel => exact ⟨k + 1, by omega, by rw [terms_one HZ.out, termV, List.map_append, List.length_append]; exact hown', by go_num, hB3⟩
          case measure => omega
      · obtain rfl : k = s.size := by omega
        rcases hown.2 with ⟨rfl, h0⟩ | ⟨g, cap, cur, rfl, hg, hgc, hcap, hmax, hcur, htake⟩
        · have HZ : Hid (terms s n s.size = []) := Lib.hid (List.eq_nil_of_length_eq_zero h0)
          clear hown h0 htc
          go_wp2_with fail
          go_ret2
          exact ⟨by rw [HR.out, dnf, if_neg hn, if_pos HZ.out]; rfl, hbel⟩
        · by_cases h0 : (terms s n s.size).length = 0
          · have HZ : Hid (terms s n s.size = []) := Lib.hid (List.eq_nil_of_length_eq_zero h0)
            rw [h0]
            clear hown h0 htc hcap htake
            go_wp2_with fail
            go_ret2
            exact ⟨by rw [HR.out, dnf, if_neg hn, if_pos HZ.out]; rfl, hbel⟩
          · have HZ : Hid (terms s n s.size ≠ []) := Lib.hid (fun e => h0 (by rw [e]; rfl))
            have f3 : ((((terms s n s.size).length : Nat) : Int) == 0) = false := by rw [beq_eq_false_iff_ne]; omega
            obtain ⟨xs, hxs⟩ : ∃ xs : List ByteArray, xs = (terms s n s.size).map (fun t => (⟨t.toArray⟩ : ByteArray)) := ⟨_, rfl⟩
            have hxl : xs.length = (terms s n s.size).length := by rw [hxs, List.length_map]
            have hxd : xs.map (·.data.toList) = terms s n s.size := by rw [hxs, List.map_map]; exact (List.map_congr_left (g := id) (fun t _ => by simp)).trans (List.map_id _)
            have hcells : ∀ (j : Nat) x, xs[j]? = some x → wr.cell? ⟨g, 0 + j, none⟩ = some (.string x) := by
              intro j x hj
              have hjl : j < xs.length := (List.getElem?_eq_some_iff.1 hj).1
              have hbx : Box wr g 9 cur := hgc
              rw [Nat.zero_add, hbx.cell, ← Array.getElem?_toList]
              have h1 : (cur.toList.take ((terms s n s.size).length * 1))[j]? = some (.string x) := by
                rw [htake, termV, List.getElem?_map]
                rw [hxs, List.getElem?_map] at hj
                cases ht : (terms s n s.size)[j]? with
                | none => rw [ht] at hj; cases hj
                | some t => rw [ht] at hj; cases hj; rfl
              rw [List.getElem?_take] at h1
              split at h1
              · exact h1
              · cases h1
            have hlen := terms_len s n hn10 s.size
            have c4 := Tryd.strings_Join g 0 cap xs ⟨#[32, 43, 32]⟩ wr hcells (heap_lt hgc) (by omega) (by omega) (by rw [hxd]; exact Nat.le_trans hlen (by omega))
            rw [hxd, hxl] at c4
            have C4 := Lib.hid c4
            clear hown h0 htc hcap htake c4 hcells hxd hxl hxs hlen hgc hcur hg
            go_wp2_with (go_at_call 12; refine C4.out.mono ?_; rintro e w2 ⟨rfl, hb2⟩)
            go_ret2
            exact ⟨by rw [HR.out, dnf, if_neg hn, if_neg HZ.out]; rfl, hbel.trans (hb2.mono hbel.size)⟩

set_option maxRecDepth 100000 in
set_option maxHeartbeats 3200000 in
theorem lawDnf_any (s : ByteArray) (w : World) (hs : s.size ≤ 9223372036854775807) (hT : TabD w) :
    Calls Tryd.prog 3 #[.string s] w fun e w' => e = .returned (.bool true) ∧ Below w.heap.size w w' := by
  by_cases h1 : s.size ≤ 1048576
  · have h1' : ¬ (1048576 : Int) < (s.size : Int) := by omega
    have CS : Hid (∀ W, _) := Lib.hid fun W => (show Calls Tryd.prog 4 #[.string s] W fun e w' => e = .returned (.tuple #[.string (dnfR s).1, .bool (dnfR s).2]) ∧ Below W.heap.size W w' from by
      by_cases h : ∃ n, Tb s n
      · exact specDnf_yes s _ W h1 h.choose_spec
      · exact specDnf_no s W h1 fun n k => h ⟨n, k⟩)
    have CI : Hid (∀ W, Below w.heap.size w W → _) := Lib.hid fun W hW => (show Calls Tryd.prog 5 #[.string s] W fun e w' => e = .returned (.tuple #[.string (dnfR s).1, .bool (dnfR s).2]) ∧ Below W.heap.size W w' from by
      by_cases h : ∃ n, Tb s n
      · exact implDnf_yes s _ W h1 h.choose_spec (hT.below hW)
      · exact implDnf_no s W h1 fun n k => h ⟨n, k⟩)
    clear hT
    obtain ⟨a, ha⟩ : ∃ a, a = (dnfR s).1 := ⟨_, rfl⟩
    obtain ⟨b, hb⟩ : ∃ b, b = (dnfR s).2 := ⟨_, rfl⟩
    rw [← ha, ← hb] at CS CI
    clear ha hb
    have e1 : (a.toList != a.toList) = false := by simp
    have e2 : (b != b) = false := by simp
    go_enter Tryd.func3, Tryd.ntmps3
    go_wp2_with (first
      | (go_at_call 4; refine (CS.out _).mono ?_; rintro e w1 ⟨rfl, hb1⟩)
      | (go_at_call 5; refine (CI.out _ hb1).mono ?_; rintro e w2 ⟨rfl, hb2⟩))
    go_ret
    exact ⟨rfl, hb1.trans (hb2.mono hb1.size)⟩
  · have h1' : (1048576 : Int) < (s.size : Int) := by omega
    go_enter Tryd.func3, Tryd.ntmps3
    go_wp2_with fail
    go_ret
    exact ⟨rfl, Below.refl _ _⟩

end Go.Proofs.YtfeejdbkolpjoaaDoor
