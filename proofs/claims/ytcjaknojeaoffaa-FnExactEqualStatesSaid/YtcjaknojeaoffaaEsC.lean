/-
  Lists of weighted states: the program's and the model's tests of equality.
-/
import Derived.Test.YtcjaknojeaoffaaEsB
namespace Go.Proofs.Ytcjaknojeaoffaa
open Go.RowKit Num

/-- Two lists of weighted states are equal. -/
def WtsEq (n : Nat) (wl : Nat → Nat) (wv : Nat → Nat → Int) (wq : Nat → Bool × ByteArray × ByteArray) (m : Nat) (ul : Nat → Nat) (uv : Nat → Nat → Int) (uq : Nat → Bool × ByteArray × ByteArray) : Prop := n = m ∧ ∀ j, j < n → wq j = uq j ∧ LsEq (wl j) (wv j) (ul j) (uv j)

theorem Try.und_RatW : Try.prog.underlying 34 = some (.struct (Try.prog.fieldsOf 34)) := by kernel_rfl
theorem Try.sih_RatW : Try.prog.stoodInHeld 34 = false := by kernel_rfl
theorem Try.flds_RatW : ((Try.prog.fieldsOf 34).toList.map fun f => (f.name, f.type, f.offset)) = [("Neg", 4, 0), ("Num", 9, 1), ("Den", 9, 2)] := by kernel_rfl

theorem eqfOfRatW (a d : Bool) (b e : ByteArray) (c f : ByteArray) (W : World) : (Op.equalIn 10000 34 (.agg #[.bool a, .string b, .string c]) (.agg #[.bool d, .string e, .string f])).run Try.prog W = .ok ((a == d) && (b.toList == e.toList) && (c.toList == f.toList)) W := by
  rw [run_equalIn_agg _ 9999 _ _ _ Try.und_RatW Try.sih_RatW]
  have hf := Try.flds_RatW
  generalize (Try.prog.fieldsOf 34).toList = fs at hf ⊢
  obtain ⟨f0, fs, rfl, h0, hf⟩ := List.map_eq_cons_iff.1 hf
  obtain ⟨f1, fs, rfl, h1, hf⟩ := List.map_eq_cons_iff.1 hf
  obtain ⟨f2, fs, rfl, h2, hf⟩ := List.map_eq_cons_iff.1 hf
  obtain rfl := List.map_eq_nil_iff.1 hf
  simp only [Prod.mk.injEq] at h0 h1 h2
  obtain ⟨n0, t0, o0⟩ := h0
  obtain ⟨n1, t1, o1⟩ := h1
  obtain ⟨n2, t2, o2⟩ := h2
  simp [Op.eqFields, n0, t0, o0, n1, t1, o1, n2, t2, o2, go_sem]
  repeat' split
  all_goals simp_all

theorem neqOfRatW (a d : Bool) (b e : ByteArray) (c f : ByteArray) (W : World) : (binOp .neq 34 (.agg #[.bool a, .string b, .string c]) (.agg #[.bool d, .string e, .string f])).run Try.prog W = .ok (.bool (!((a == d) && (b.toList == e.toList) && (c.toList == f.toList)))) W := by
  rw [run_neq_struct, eqfOfRatW]; rfl

theorem eqlOfRatW (a d : Bool) (b e : ByteArray) (c f : ByteArray) (W : World) : (binOp .eql 34 (.agg #[.bool a, .string b, .string c]) (.agg #[.bool d, .string e, .string f])).run Try.prog W = .ok (.bool ((a == d) && (b.toList == e.toList) && (c.toList == f.toList))) W := by
  rw [run_eql_struct, eqfOfRatW]; rfl

theorem ratW_eq {p q : Bool × ByteArray × ByteArray} (h : ((p.1 == q.1) && (p.2.1.toList == q.2.1.toList) && (p.2.2.toList == q.2.2.toList)) = true) : p = q := by
  simp only [Bool.and_eq_true] at h
  obtain ⟨a, b, c⟩ := p
  obtain ⟨d, e, f⟩ := q
  obtain rfl : a = d := eq_of_beq h.1.1
  obtain rfl : b = e := toList_inj h.1.2
  obtain rfl : c = f := toList_inj h.2
  rfl
theorem ratW_ne {p q : Bool × ByteArray × ByteArray} (h : ((p.1 == q.1) && (p.2.1.toList == q.2.1.toList) && (p.2.2.toList == q.2.2.toList)) = false) : p ≠ q := fun e => by
  rw [e] at h; simp at h

set_option maxRecDepth 100000 in
set_option maxHeartbeats 1600000 in
theorem sameWt_any (lo lo' : Nat) (A0 A1 : Option Addr) (m n c0 c1 : Nat) (f g : Nat → Int) (p q : Bool × ByteArray × ByteArray) (w : World) (hm : m ≤ 1048576) (hn : n ≤ 1048576) (h0 : IntsAt lo w A0 m f) (h1 : IntsAt lo' w A1 n g) :
    Calls Try.prog 13 #[.agg #[.slice A0 m c0, .bool p.1, .string p.2.1, .string p.2.2], .agg #[.slice A1 n c1, .bool q.1, .string q.2.1, .string q.2.2]] w (Yn (p = q ∧ LsEq m f n g) w) := by
  have hP := (Box.new w 36 #[.slice A0 m c0, .bool p.1, .string p.2.1, .string p.2.2]).alloc (.cells #[.slice A1 n c1, .bool q.1, .string q.2.1, .string q.2.2] 36)
  have hQ := Box.new (w.alloc (.cells #[.slice A0 m c0, .bool p.1, .string p.2.1, .string p.2.2] 36)) 36 #[.slice A1 n c1, .bool q.1, .string q.2.1, .string q.2.2]
  rw [show (w.alloc (.cells #[.slice A0 m c0, .bool p.1, .string p.2.1, .string p.2.2] 36)).heap.size = w.heap.size + 1 by simp] at hQ
  have hB : Below w.heap.size w ((w.alloc (.cells #[.slice A0 m c0, .bool p.1, .string p.2.1, .string p.2.2] 36)).alloc (.cells #[.slice A1 n c1, .bool q.1, .string q.2.1, .string q.2.2] 36)) := ((Below.refl _ w).alloc (Nat.le_refl _) _).alloc (by simp) _
  obtain ⟨q0, q1, q2, q3, _⟩ := hP.fourW
  obtain ⟨u0, u1, u2, u3, _⟩ := hQ.fourW
  have C : Hid (∀ W, Below w.heap.size w W → _) := Lib.hid fun W hW => eqInts_any lo lo' A0 A1 m n c0 c1 f g W hm hn (h0.below hW (Nat.le_refl _)) (h1.below hW (Nat.le_refl _))
  clear h0 h1
  cases e1 : ((p.1 == q.1) && (p.2.1.toList == q.2.1.toList) && (p.2.2.toList == q.2.2.toList)) with
  | false =>
    have HE := Lib.hid (ratW_ne e1)
    have NR : ∀ W, (binOp .eql 34 (.agg #[.bool p.1, .string p.2.1, .string p.2.2]) (.agg #[.bool q.1, .string q.2.1, .string q.2.2])).run Try.prog W = .ok (.bool false) W := fun W => by rw [eqlOfRatW, e1]
    clear e1
    go_enter Try.func13, Try.ntmps13
    go_wp2_with fail
    go_ret
    exact Yn.no (fun h => HE.out h.1) hB
  | true =>
    have HE := Lib.hid (ratW_eq e1)
    have NR : ∀ W, (binOp .eql 34 (.agg #[.bool p.1, .string p.2.1, .string p.2.2]) (.agg #[.bool q.1, .string q.2.1, .string q.2.2])).run Try.prog W = .ok (.bool true) W := fun W => by rw [eqlOfRatW, e1]
    clear e1
    go_enter Try.func13, Try.ntmps13
    go_wp2_with (go_at_call 14; refine (C.out _ hB).mono ?_; rintro e w1 ⟨r, rfl, hr, hb⟩)
    go_ret
    exact ⟨r, rfl, Lib.hid (hr.out.trans ⟨fun h => ⟨HE.out, h⟩, fun h => h.2⟩), hB.trans (hb.mono hB.size)⟩

theorem below_twoW {w w1 : World} {a b : Obj} (h : Below ((w.alloc a).alloc b).heap.size ((w.alloc a).alloc b) w1) : Below w.heap.size w w1 :=
  (((Below.refl _ w).alloc (Nat.le_refl _) a).alloc (by simp) b).trans (h.mono (by simp; omega))
theorem not_tW {r : Bool} (h : (!r) = true) : ¬ r = true := by cases r <;> simp_all
theorem not_fW {r : Bool} (h : (!r) = false) : r = true := by cases r <;> simp_all

set_option maxRecDepth 100000 in
set_option maxHeartbeats 3200000 in
theorem eqfWt_any (lo lo' : Nat) (A0 A1 : Option Addr) (n m c0 c1 : Nat) (wl : Nat → Nat) (wv : Nat → Nat → Int) (wq : Nat → Bool × ByteArray × ByteArray) (ul : Nat → Nat) (uv : Nat → Nat → Int) (uq : Nat → Bool × ByteArray × ByteArray) (w : World) (hn : n ≤ 1048576) (hm : m ≤ 1048576) (h0 : WtAt lo w A0 n wl wv wq) (h1 : WtAt lo' w A1 m ul uv uq) (hs : ∀ j, j < n → wl j ≤ 1048576) (ht : ∀ j, j < m → ul j ≤ 1048576) :
    Calls Try.prog 12 #[.slice A0 n c0, .slice A1 m c1, .func (.func 13) #[] #[]] w (Yn (WtsEq n wl wv wq m ul uv uq) w) := by
  have H0 := Lib.hid h0; clear h0
  have H1 := Lib.hid h1; clear h1
  have HS := Lib.hid hs; clear hs
  have HT := Lib.hid ht; clear ht
  by_cases hnm : n = m
  · subst hnm
    go_enter Try.func12, Try.ntmps12
    go_wp2_with fail
    go_loopg [17] n (fun q iv wr => ∃ k : Nat, k + q = n ∧ iv = .int .i64 (k : Nat) ∧ Hid (∀ j, j < k → wq j = uq j ∧ LsEq (wl j) (wv j) (ul j) (uv j)) ∧ Below w.heap.size w wr)
    case atStart => exact ⟨0, by omega, rfl, Lib.hid fun j h => by omega, Below.refl _ _⟩
    case round =>
      obtain ⟨k, hk, rfl, hq, hbel⟩ := hrel
      by_cases hk0 : k < n
      · obtain ⟨b, off, A3, c3, rfl, hb, r0, r1, r2, r3, g3⟩ := (H0.out.below hbel (Nat.le_refl _)).at_ hk0
        obtain ⟨b', off', B3, d3, rfl, hb', s0, s1, s2, s3, e3⟩ := (H1.out.below hbel (Nat.le_refl _)).at_ hk0
        have hsk := HS.out k hk0
        have htk := HT.out k hk0
        have C : Hid (∀ W, Below wr.heap.size wr W → _) := Lib.hid fun W hW => sameWt_any lo lo' A3 B3 (wl k) (ul k) c3 d3 (wv k) (uv k) (wq k) (uq k) W hsk htk (g3.below hW (Nat.le_refl _)) (e3.below hW (Nat.le_refl _))
        clear g3 e3 hsk htk
        go_wp2_with (go_at_call 13; refine (C.out _ (((Below.refl _ wr).alloc (Nat.le_refl _) _).alloc (by simp) _)).mono ?_; rintro e w1 ⟨r, rfl, hr, hb1⟩; have hB := hbel.trans ((below_twoW hb1).mono hbel.size); clear hb1)
        all_goals first
          | (go_ret
             exact Yn.no (fun h => absurd (hr.out.2 (h.2 k hk0)) (not_tW (by assumption))) hB)
          | (have HE : Hid (r = true) := Lib.hid (not_fW (by assumption))
             go_roundg (gk - 1)
             case rel => exact ⟨k + 1, by omega, by go_num, Lib.hid fun j hj => by
               by_cases hjk : j < k
               · exact hq.out j hjk
               · obtain rfl : j = k := by omega
                 exact hr.out.1 HE.out, hB⟩
             case measure => omega)
      · obtain rfl : k = n := by omega
        go_wp2_with fail
        go_ret
        exact Yn.yes ⟨rfl, hq.out⟩ hbel
  · have hne : ((n : Int) == (m : Int)) = false := by rw [beq_eq_false_iff_ne]; omega
    go_enter Try.func12, Try.ntmps12
    go_wp2_with fail
    go_ret
    exact Yn.no (fun h => hnm h.1) (Below.refl _ _)

set_option maxRecDepth 100000 in
theorem implEs_any (lo lo' : Nat) (A0 A1 : Option Addr) (n m c0 c1 : Nat) (wl : Nat → Nat) (wv : Nat → Nat → Int) (wq : Nat → Bool × ByteArray × ByteArray) (ul : Nat → Nat) (uv : Nat → Nat → Int) (uq : Nat → Bool × ByteArray × ByteArray) (w : World) (hn : n ≤ 1048576) (hm : m ≤ 1048576) (h0 : WtAt lo w A0 n wl wv wq) (h1 : WtAt lo' w A1 m ul uv uq) (hs : ∀ j, j < n → wl j ≤ 1048576) (ht : ∀ j, j < m → ul j ≤ 1048576) :
    Calls Try.prog 7 #[.slice A0 n c0, .slice A1 m c1] w (Yn (WtsEq n wl wv wq m ul uv uq) w) := by
  have C := Lib.hid (eqfWt_any lo lo' A0 A1 n m c0 c1 wl wv wq ul uv uq w hn hm h0 h1 hs ht)
  clear h0 h1 hs ht
  go_enter Try.func7, Try.ntmps7
  go_wp2_with (go_at_call 12; refine C.out.mono ?_; rintro e w1 ⟨r, rfl, hr, hb⟩)
  go_ret
  exact ⟨r, rfl, hr, hb⟩

set_option maxRecDepth 100000 in
set_option maxHeartbeats 3200000 in
theorem specEs_any (lo lo' : Nat) (A0 A1 : Option Addr) (n m c0 c1 : Nat) (wl : Nat → Nat) (wv : Nat → Nat → Int) (wq : Nat → Bool × ByteArray × ByteArray) (ul : Nat → Nat) (uv : Nat → Nat → Int) (uq : Nat → Bool × ByteArray × ByteArray) (w : World) (hn : n ≤ 1048576) (hm : m ≤ 1048576) (h0 : WtAt lo w A0 n wl wv wq) (h1 : WtAt lo' w A1 m ul uv uq) (hs : ∀ j, j < n → wl j ≤ 1048576) (ht : ∀ j, j < m → ul j ≤ 1048576) :
    Calls Try.prog 5 #[.slice A0 n c0, .slice A1 m c1] w (Yn (WtsEq n wl wv wq m ul uv uq) w) := by
  have H0 := Lib.hid h0; clear h0
  have H1 := Lib.hid h1; clear h1
  have HS := Lib.hid hs; clear hs
  have HT := Lib.hid ht; clear ht
  by_cases hnm : n = m
  · subst hnm
    go_enter Try.func5, Try.ntmps5
    go_wp2_with fail
    go_loopg [13] n (fun q iv wr => ∃ k : Nat, k + q = n ∧ iv = .int .i64 (k : Nat) ∧ Hid (∀ j, j < k → wq j = uq j ∧ LsEq (wl j) (wv j) (ul j) (uv j)) ∧ Below w.heap.size w wr)
    case atStart => exact ⟨0, by omega, rfl, Lib.hid fun j h => by omega, Below.refl _ _⟩
    case round =>
      obtain ⟨k, hk, rfl, hq, hbel⟩ := hrel
      by_cases hk0 : k < n
      · obtain ⟨b, off, A3, c3, rfl, hb, r0, r1, r2, r3, g3⟩ := (H0.out.below hbel (Nat.le_refl _)).at_ hk0
        obtain ⟨b', off', B3, d3, rfl, hb', s0, s1, s2, s3, e3⟩ := (H1.out.below hbel (Nat.le_refl _)).at_ hk0
        have hsk := HS.out k hk0
        have htk := HT.out k hk0
        cases e1 : (((wq k).1 == (uq k).1) && ((wq k).2.1.toList == (uq k).2.1.toList) && ((wq k).2.2.toList == (uq k).2.2.toList)) with
        | false =>
          have HE := Lib.hid (ratW_ne e1)
          have NR : ∀ W, (binOp .neq 34 (.agg #[.bool (wq k).1, .string (wq k).2.1, .string (wq k).2.2]) (.agg #[.bool (uq k).1, .string (uq k).2.1, .string (uq k).2.2])).run Try.prog W = .ok (.bool true) W := fun W => by rw [neqOfRatW, e1]; rfl
          clear e1 g3 e3 hsk htk
          go_upto_region 6 with fail
          go_quiet (fail)
          go_wp2_with fail
          go_ret
          exact Yn.no (fun h => HE.out (h.2 k hk0).1) (below_drewN _ hbel)
        | true =>
          have HE := Lib.hid (ratW_eq e1)
          have NR : ∀ W, (binOp .neq 34 (.agg #[.bool (wq k).1, .string (wq k).2.1, .string (wq k).2.2]) (.agg #[.bool (uq k).1, .string (uq k).2.1, .string (uq k).2.2])).run Try.prog W = .ok (.bool false) W := fun W => by rw [neqOfRatW, e1]; rfl
          clear e1
          have C : Hid (∀ W, Below wr.heap.size wr W → _) := Lib.hid fun W hW => sameInts_any lo lo' A3 B3 (wl k) (ul k) c3 d3 (wv k) (uv k) W hsk htk (g3.below hW (Nat.le_refl _)) (e3.below hW (Nat.le_refl _))
          clear g3 e3 hsk htk
          go_upto_region 6 with fail
          go_region_held3 (fun w' => w'.cell? ⟨b, off + k * 4, none⟩ = some (.slice A3 (wl k) c3) ∧ w'.cell? ⟨b, off + k * 4 + 1, none⟩ = some (.bool (wq k).1) ∧ w'.cell? ⟨b, off + k * 4 + 2, none⟩ = some (.string (wq k).2.1) ∧ w'.cell? ⟨b, off + k * 4 + 3, none⟩ = some (.string (wq k).2.2) ∧ w'.cell? ⟨b', off' + k * 4, none⟩ = some (.slice B3 (ul k) d3) ∧ w'.cell? ⟨b', off' + k * 4 + 1, none⟩ = some (.bool (uq k).1) ∧ w'.cell? ⟨b', off' + k * 4 + 2, none⟩ = some (.string (uq k).2.1) ∧ w'.cell? ⟨b', off' + k * 4 + 3, none⟩ = some (.string (uq k).2.2) ∧ Below wr.heap.size wr w')
            ((suffices hB : Below wr.heap.size wr _ from ⟨(hB.cell hb).trans r0, (hB.cell hb).trans r1, (hB.cell hb).trans r2, (hB.cell hb).trans r3, (hB.cell hb').trans s0, (hB.cell hb').trans s1, (hB.cell hb').trans s2, (hB.cell hb').trans s3, hB⟩; first | exact (Below.refl _ wr).drew | exact heldE (by assumption) | (refine stepB (heldE (by assumption)) ?_; assumption)))
            ((go_at_call 10; refine (C.out _ (heldE (by assumption))).mono ?_; rintro e w1 ⟨r, rfl, hr, hb1⟩))
          all_goals go_wp2_with fail
          all_goals first
            | (go_ret
               exact Yn.no (fun h => absurd (hr.out.2 (h.2 k hk0).2) (not_tW (by assumption))) (hbel.trans ((heldE (by assumption)).mono hbel.size)))
            | (have HF : Hid (r = true) := Lib.hid (not_fW (by assumption))
               go_roundg (gk - 1)
               case rel => exact ⟨k + 1, by omega, by go_num, Lib.hid fun j hj => by
                 by_cases hjk : j < k
                 · exact hq.out j hjk
                 · obtain rfl : j = k := by omega
                   exact ⟨HE.out, hr.out.1 HF.out⟩, hbel.trans ((heldE (by assumption)).mono hbel.size)⟩
               case measure => omega)
      · obtain rfl : k = n := by omega
        go_wp2_with fail
        go_ret
        exact Yn.yes ⟨rfl, hq.out⟩ hbel
  · have hne : ((n : Int) == (m : Int)) = false := by rw [beq_eq_false_iff_ne]; omega
    go_enter Try.func5, Try.ntmps5
    go_wp2_with fail
    go_ret
    exact Yn.no (fun h => hnm h.1) (Below.refl _ _)

end Go.Proofs.Ytcjaknojeaoffaa
