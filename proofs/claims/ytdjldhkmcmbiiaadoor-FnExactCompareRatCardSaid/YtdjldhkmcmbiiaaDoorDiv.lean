/-
  The model's long division: a digit a round, each found by halving; and the greatest common divisor by it.
-/
import Derived.Test.YtdjldhkmcmbiiaaDoorMul
import Derived.Laws.AppendOwnNone
import Derived.Deep.LoopGhost
namespace Go.Proofs.YtdjldhkmcmbiiaaDoor
open Go.RowKit Num

/-- The elements of a row as cells. -/
def cellsOf (k : IntKind) (d : Nat → Nat) (m : Nat) : List Value := (List.range m).map fun j => .int k (d j : Nat)

theorem cellsOf_get {k : IntKind} {d : Nat → Nat} {m j : Nat} {u : Value} (h : (cellsOf k d m)[j]? = some u) : j < m ∧ u = .int k (d j : Nat) := by
  unfold cellsOf at h
  rw [List.getElem?_map] at h
  by_cases hj : j < m
  · rw [List.getElem?_range hj] at h
    exact ⟨hj, by simpa using h.symm⟩
  · rw [List.getElem?_eq_none (by simp; omega)] at h
    simp at h

/-- append onto a row of the call's own, the source a row of numbers, nil or not. -/
theorem wpList_append_rowF {P : Program} {w : World} {ops : Array Oper} {rest : List Oper} {o : Oper} {a : Act} {Q : Exit → Act → World → Prop} (hgd : o.guard = none) (s x : Operand) (t : TypeId)
    (ho : o.op = .call { callee := .builtin .append, args := #[s, x], argTypes := #[t, t] })
    (base : Nat) (e : TypeId) (i : TypeInfo) (z : Value) (bytes : Nat) (ht : P.underlying t = some (.slice e)) (hi : P.info? e = some i) (hz : i.zero = some z)
    (hsize : i.size = 1) (hby : i.bytes = bytes) (hzs : z.cells.size = 1)
    (v : Value) (n : Nat) (xs : List Value) (hs : a.eval s = v) (hown : w.ownsRow base e 1 v n xs)
    (k : IntKind) (vs : Value) (m : Nat) (d : Nat → Nat) (hx : a.eval x = vs) (hr : RowF e k w vs m d)
    (h63 : n + m ≤ maxLen) (hbytes : (n + m) * bytes ≤ 140737488355328) (hbase : base ≤ w.heap.size)
    (h : ∀ v' w', w'.ownsRow base e 1 v' (n + m) (xs ++ cellsOf k d m) → w.grownBy w' v.ownBlock → wpList P ops Q rest (a.put o.dst v') w') : wpList P ops Q (o :: rest) a w := by
  rcases hr with ⟨rfl, rfl⟩ | ⟨b, off, cap, rfl, h1, h2, h3, h4⟩
  · exact wpList_append_own_none hgd s x t ho base e i 1 ht hi v n xs hs hown hx (h v w (by simpa [cellsOf] using hown) (World.grownBy.refl w _))
  · refine wpList_append_own w hgd s x t ho base e i z 1 bytes ht hi hz hsize hby hzs (by omega) v n xs hs hown ⟨b, off, none⟩ m cap (cellsOf k d m) hx (by simp [cellsOf]) ?_ ?_ h63 hbytes hbase fun v' w' h5 h6 _ => h v' w' h5 h6
    · intro j u hu
      obtain ⟨hj, rfl⟩ := cellsOf_get hu
      have e : (⟨b, off, none⟩ : Addr).add j = ⟨b, off + j, none⟩ := by unfold Addr.add; split <;> simp_all
      rw [e]; exact h4 j hj
    · intro u hu
      obtain ⟨j, hj⟩ := List.getElem?_of_mem hu
      obtain ⟨_, rfl⟩ := cellsOf_get hj
      rfl

theorem cellsOf_digs (k : IntKind) (b x : Nat) : cellsOf k (dg b x) (ln b x) = (digs b x).map fun x => Value.int k (x : Nat) := by
  apply List.ext_getElem
  · simp [cellsOf, length_digs]
  · intro j h1 h2
    simp only [cellsOf, List.length_map, List.length_range] at h1
    have h3 : j < (digs b x).length := h1
    simp [cellsOf, dg, List.getD, h3]

theorem below_own {w w' : World} {B base : Nat} {e : TypeId} {v : Value} {n : Nat} {xs : List Value} (h : w.ownsRow base e 1 v n xs) (hb : Below B w w') (hB : w.heap.size ≤ B) : w'.ownsRow base e 1 v n xs := by
  refine h.kept (row := none) ⟨hb.os, hb.tape, hb.output, hb.size, fun k hk _ => hb.block k (by omega)⟩ ?_
  cases v.ownBlock <;> simp

/-- One step of the division of x by y: the digits from k on are divided. -/
theorem div_step (x y k : Nat) (hy : 0 < y) : x / 10000 ^ k / y = 10000 * (x / 10000 ^ (k + 1) / y) + (dg 10000 x k + 10000 * (x / 10000 ^ (k + 1) % y)) / y ∧ x / 10000 ^ k % y = (dg 10000 x k + 10000 * (x / 10000 ^ (k + 1) % y)) % y := by
  have e1 : x / 10000 ^ k = 10000 * (x / 10000 ^ (k + 1)) + dg 10000 x k := by
    rw [dg_eq 10000 (by omega), Nat.pow_succ, ← Nat.div_div_eq_div_mul]
    omega
  have e2 := Nat.div_add_mod (x / 10000 ^ (k + 1)) y
  have e3 : x / 10000 ^ k = (dg 10000 x k + 10000 * (x / 10000 ^ (k + 1) % y)) + y * (10000 * (x / 10000 ^ (k + 1) / y)) := by
    rw [e1, Nat.mul_left_comm]
    omega
  rw [e3]
  constructor
  · rw [Nat.add_mul_div_left _ _ hy]; omega
  · rw [Nat.add_mul_mod_self_left]

theorem digit_lt (r d y : Nat) (hr : r < y) (hd : d < 10000) : (d + 10000 * r) / y < 10000 := by
  apply Nat.div_lt_of_lt_mul
  have : 10000 * r + 10000 ≤ 10000 * y := by omega
  rw [Nat.mul_comm]; omega

theorem fromInt_int (z : Int) (w : World) (h0 : 0 ≤ z) (h1 : z ≤ 9999) :
    Calls Tryd.prog 72 #[.int .i64 z] w fun e w' => (∃ v, e = .returned v ∧ Nums 3 .i64 10000 w' v z.toNat) ∧ Below w.heap.size w w' := by
  obtain ⟨n, rfl⟩ := Int.eq_ofNat_of_zero_le h0
  exact fromInt_any n w (by omega)

theorem fromInt_eq (z : Int) (n : Nat) (w : World) (h0 : z = (n : Nat)) (h1 : n ≤ 9999) :
    Calls Tryd.prog 72 #[.int .i64 z] w fun e w' => (∃ v, e = .returned v ∧ Nums 3 .i64 10000 w' v n) ∧ Below w.heap.size w w' := by
  subst h0
  exact fromInt_any n w (by omega)

theorem cmpNat_le (va vb : Value) (x y : Nat) (w : World) (ha : Nums 3 .i64 10000 w va x) (hb : Nums 3 .i64 10000 w vb y) (h : x ≤ y) :
    Calls Tryd.prog 89 #[va, vb] w fun e w' => ∃ c : Int, e = .returned (.int .i64 c) ∧ c ≤ 0 ∧ ∃ nq, w' = w.drewN nq :=
  (cmpNat_any va vb x y w ha hb).mono fun e w' ⟨he, hw⟩ => ⟨_, he, by unfold cmpI; split <;> (try split) <;> omega, hw⟩

theorem cmpNat_gt (va vb : Value) (x y : Nat) (w : World) (ha : Nums 3 .i64 10000 w va x) (hb : Nums 3 .i64 10000 w vb y) (h : y < x) :
    Calls Tryd.prog 89 #[va, vb] w fun e w' => ∃ c : Int, e = .returned (.int .i64 c) ∧ 0 < c ∧ ∃ nq, w' = w.drewN nq :=
  (cmpNat_any va vb x y w ha hb).mono fun e w' ⟨he, hw⟩ => ⟨_, he, by unfold cmpI; split <;> (try split) <;> omega, hw⟩

theorem ln_small (n : Nat) (h : n < 10000) : ln 10000 n ≤ 1 := ln_le_of_lt _ _ _ (by omega) (by omega)

theorem app_row {w1 : World} {base : Nat} {v : Value} {D r : Nat} (h : w1.ownsRow base 3 1 v (1 + ln 10000 r) ([.int .i64 (D : Nat)] ++ cellsOf .i64 (dg 10000 r) (ln 10000 r))) : RowF 3 .i64 w1 v (D :: digs 10000 r).length fun j => (D :: digs 10000 r).getD j 0 := by
  rw [cellsOf_digs] at h
  exact rowF_own (base := base) (e := 3) (D :: digs 10000 r) rfl (by rw [show (D :: digs 10000 r).length = 1 + ln 10000 r from by rw [List.length_cons, length_digs]; omega]; simpa using h)

theorem own_not_below {w1 : World} {base g : Nat} {e : TypeId} {v : Value} {n : Nat} {xs : List Value} (h : w1.ownsRow base e 1 v n xs) (hg : g < base) : v.ownBlock ≠ some g := fun e => by
  have := (h.lt g e).1
  omega

theorem built_below {wr w1 : World} {o : Obj} (hg : (wr.alloc o).grownBy w1 (some wr.heap.size)) : Below wr.heap.size wr w1 :=
  ((Below.refl _ wr).alloc (Nat.le_refl _) o).grown hg (by simp) (fun k hk => by cases hk; exact Nat.le_refl _)

set_option maxRecDepth 100000 in
set_option maxHeartbeats 4000000 in
theorem divNat_any (va vb : Value) (x y : Nat) (w : World) (ha : Nums 3 .i64 10000 w va x) (hb : Nums 3 .i64 10000 w vb y) (hy : 0 < y) (hlx : ln 10000 x ≤ 549755813888) (hly : ln 10000 y ≤ 549755813888) :
    Calls Tryd.prog 71 #[va, vb] w fun e w' => (∃ v v', e = .returned (.tuple #[v, v']) ∧ Nums 3 .i64 10000 w' v (x / y) ∧ Nums 3 .i64 10000 w' v' (x % y)) ∧ Below w.heap.size w w' := by
  obtain ⟨i0, hi, hz0, hz1, hz2⟩ := info_parts Tryd.info_int
  obtain ⟨Aa, ca, rfl, hca, hca', hA⟩ := RowF.open ha
  clear ha
  have HA : Hid (RowA .i64 w Aa (ln 10000 x) (dg 10000 x)) := Lib.hid hA; clear hA
  have HB := Lib.hid hb; clear hb
  obtain ⟨la, hla⟩ : ∃ la, la = ln 10000 x := ⟨_, rfl⟩
  rw [← hla] at HA hca hlx ⊢
  have Hla := Lib.hid hla; clear hla
  go_enter Tryd.func71, Tryd.ntmps71
  go_wp2_with (at_make; refine wpList_make_full _ rfl _ _ 51 rfl w.heap.size 3 i0 (.int .i64 0) 1 Tryd.underlying51 hi hz0 hz1 _ _ _ _ la rfl rfl (by omega) (by omega) ?b2 ?b3 (Nat.le_refl _) ?_)
  case b2 => rw [hz2]; omega
  case b3 => unfold maxLen; omega
  intro w0 hown0 hgrow0
  have hown1 := made_own hown0
  have hbel0 : Below w.heap.size w w0 := (Below.refl _ _).grown hgrow0 (Nat.le_refl _) (fun k h => by cases h)
  have hlt0 : w.heap.size < w0.heap.size := by
    have := hown1.lt w.heap.size rfl
    omega
  clear hown0 hgrow0
  go_wp2_with fail
  go_loopw [7, 8] (fun vr i wr => ∃ (k : Nat) (xs : List Nat), i = .int .i64 ((k : Int) - 1) ∧ k ≤ la ∧ xs.length = la ∧ Dig 10000 xs ∧ val 10000 (xs.drop k) = x / 10000 ^ k / y ∧ Nums 3 .i64 10000 wr vr (x / 10000 ^ k % y) ∧ wr.ownsRow w.heap.size 3 1 (.slice (some ⟨w.heap.size, 0, none⟩) la la) la (xs.map fun x => .int .i64 (x : Nat)) ∧ Below w.heap.size w wr ∧ w.heap.size < wr.heap.size) (fun _ i _ => ((intOf i) + 1).toNat)
  case atStart =>
    have hdone : x / 10000 ^ la = 0 := Nat.div_eq_of_lt (by rw [Hla.out]; exact lt_pow_ln 10000 x (by omega))
    exact ⟨la, _, rfl, by omega, by simp, (fun x hx => by rw [List.eq_of_mem_replicate hx]; omega), by rw [List.drop_of_length_le (by simp), hdone]; simp [val], by rw [hdone]; simp; exact .inl ⟨rfl, rfl⟩, hown1, hbel0, hlt0⟩
  case round =>
    clear hown1 hbel0 hlt0
    obtain ⟨k, xs, rfl, hkl, hlen, hdig, hval, hrem, hown, hbel, hlt⟩ := hrel
    have Hlen := Lib.hid hlen; clear hlen
    have Hdig := Lib.hid hdig; clear hdig
    have Hval := Lib.hid hval; clear hval
    by_cases hk0 : 1 ≤ k
    · obtain ⟨q, rfl⟩ : ∃ q, k = q + 1 := ⟨k - 1, by omega⟩
      obtain ⟨ba, oa, rfl, hcA⟩ := (HA.out.below hbel (Nat.le_refl _)).at_ (show q < la by omega)
      have hdA := dg_lt 10000 x q (by omega)
      obtain ⟨r, hr⟩ : ∃ r, r = x / 10000 ^ (q + 1) % y := ⟨_, rfl⟩
      rw [← hr] at hrem
      have hry : r < y := by rw [hr]; exact Nat.mod_lt _ hy
      obtain ⟨D, hD⟩ : ∃ D, D = dg 10000 x q := ⟨_, rfl⟩
      rw [← hD] at hcA hdA
      have hstep := div_step x y q hy
      rw [← hr, ← hD] at hstep
      have Hstep := Lib.hid hstep; clear hstep
      have hqd : (D + 10000 * r) / y < 10000 := digit_lt r D y hry hdA
      obtain ⟨R, hR⟩ : ∃ R, R = D + 10000 * r := ⟨_, rfl⟩
      rw [← hR] at hqd
      have hlr : ln 10000 r ≤ 549755813888 := Nat.le_trans (ln_mono _ _ _ (by omega) (Nat.le_of_lt hry)) hly
      have hlR : ln 10000 R ≤ 549755813895 := by
        have h1 := ln_add 10000 D (10000 * r) (by omega)
        have h2 := ln_mul 10000 10000 r (by omega)
        have h3 : ln 10000 10000 ≤ 2 := ln_le_of_lt _ _ _ (by omega) (by omega)
        have h4 := ln_small D hdA
        rw [hR]; omega
      have HR := Lib.hid hR; clear hR
      have Hr := Lib.hid hr; clear hr
      have HD := Lib.hid hD; clear hD
      have hsz := hbel.size
      have hn0 : 1 + ln 10000 r ≤ maxLen := by unfold maxLen; omega
      have Hn0 := Lib.hid hn0; clear hn0
      have hrem2 : RowF 3 .i64 (wr.alloc (.cells #[.int .i64 (D : Nat)] 3)) u7 (ln 10000 r) (dg 10000 r) := hrem.below ((Below.refl _ wr).alloc (Nat.le_refl _) _) (Nat.le_refl _)
      have hlit : (wr.alloc (.cells #[.int .i64 (D : Nat)] 3)).ownsRow wr.heap.size 3 1 (.slice (some ⟨wr.heap.size, 0, none⟩) 1 1) 1 [.int .i64 (D : Nat)] := World.ownsRow_lit wr #[.int .i64 (D : Nat)] 1 (Nat.le_refl _) (by unfold maxLen; omega) (by simp)
      have Hrem2 := Lib.hid hrem2; clear hrem2
      have Hlit := Lib.hid hlit; clear hlit
      go_wp2_with (first
        | (at_builtin; refine wpList_append_rowF rfl _ _ 51 rfl wr.heap.size 3 i0 (.int .i64 0) 8 Tryd.underlying51 hi hz0 hz1 hz2 rfl _ 1 _ rfl Hlit.out .i64 u7 (ln 10000 r) (dg 10000 r) rfl Hrem2.out Hn0.out (by omega) (by simp) ?_; intro v1 w1 hown1 hgrow1; have hb1 := built_below hgrow1; have hrow1 := app_row hown1; have hat1 := own_not_below hown1 hlt; clear hown1 hgrow1)
        | (go_at_call 94; refine (trim_at _ (D :: digs 10000 r) _ ((dig_digs 10000 (by omega) r).cons hdA) hrow1).mono ?_; rintro e w' ⟨⟨v2, rfl, hv2, hat2⟩, rfl⟩))
      have hown1 := below_own hown hb1 (Nat.le_refl _)
      have hbel1 := hbel.trans (hb1.mono hsz)
      have hlt1 : w.heap.size < w1.heap.size := Nat.lt_of_lt_of_le hlt hb1.size
      have hvR : Nums 3 .i64 10000 w1 v2 R := by
        rw [HR.out]
        have e : val 10000 (D :: digs 10000 r) = D + 10000 * r := by simp only [val, val_digs 10000 (by omega)]
        rwa [e] at hv2
      have hat3 : v2.ownBlock ≠ some w.heap.size := by rw [hat2]; exact hat1
      have Hat := Lib.hid hat3; clear hat3 hat1 hat2
      have hcQ := own_cell (j := q) hown1 Hlen.out (by omega)
      clear hrem hown hbel hlt hcA hrow1 hb1 hv2 hsz hcQ
      go_loopw [9, 10] (fun lo hi wr => ∃ l h : Nat, lo = .int .i64 (l : Nat) ∧ hi = .int .i64 (h : Nat) ∧ l ≤ h ∧ h ≤ 9999 ∧ y * l ≤ R ∧ R < y * (h + 1) ∧ Below w1.heap.size w1 wr) (fun lo hi _ => (intOf hi).toNat - (intOf lo).toNat)
      case atStart => exact ⟨0, 9999, rfl, rfl, by omega, by omega, by omega, by have := (Nat.div_lt_iff_lt_mul hy).1 hqd; rw [Nat.mul_comm]; exact this, Below.refl _ _⟩
      case round =>
        obtain ⟨l, h, rfl, rfl, hlh, hh, hl1, hh1, hb2⟩ := hrel
        have Hl1 := Lib.hid hl1; clear hl1
        have Hh1 := Lib.hid hh1; clear hh1
        have hsz2 := hb2.size
        by_cases hgo : l < h
        · have hbelr := hbel1.trans (hb2.mono (Nat.le_of_lt hlt1))
          have hszr := hbelr.size
          have hvr := hvR.below hb2 (Nat.le_refl _)
          obtain ⟨M, hM⟩ : ∃ M, M = (l + h + 1) / 2 := ⟨_, rfl⟩
          have hM1 : l < M := by omega
          have hM2 : M ≤ h := by omega
          have hlM : ln 10000 M ≤ 1099511627776 := Nat.le_trans (ln_small M (by omega)) (by omega)
          have hly' : ln 10000 y ≤ 1099511627776 := by omega
          by_cases hle : y * M ≤ R
          · go_wp2_with (first
              | (go_at_call 72; refine (fromInt_eq _ M _ (by omega) (by omega)).mono ?_; rintro e w3 ⟨⟨v3, rfl, hv3⟩, hb3⟩)
              | (go_at_call 60; refine (mulNat_any _ _ y M _ (HB.out.below (hbelr.trans (hb3.mono hszr)) (Nat.le_refl _)) hv3 hly' hlM).mono ?_; rintro e w4 ⟨⟨v4, rfl, hv4⟩, hb4⟩)
              | (go_at_call 89; refine (cmpNat_le _ _ (y * M) R _ hv4 (hvr.below (hb3.trans (hb4.mono hb3.size)) (Nat.le_refl _)) hle).mono ?_; rintro e w5 ⟨c, rfl, hc, nq, rfl⟩))
            go_roundw
            case rel => exact ⟨M, h, by rw [hM]; go_num, rfl, by omega, by omega, hle, Hh1.out, below_drewN nq (hb2.trans ((hb3.trans (hb4.mono hb3.size)).mono hsz2))⟩
            case measure => simp [intOf]; omega
          · go_wp2_with (first
              | (go_at_call 72; refine (fromInt_eq _ M _ (by omega) (by omega)).mono ?_; rintro e w3 ⟨⟨v3, rfl, hv3⟩, hb3⟩)
              | (go_at_call 60; refine (mulNat_any _ _ y M _ (HB.out.below (hbelr.trans (hb3.mono hszr)) (Nat.le_refl _)) hv3 hly' hlM).mono ?_; rintro e w4 ⟨⟨v4, rfl, hv4⟩, hb4⟩)
              | (go_at_call 89; refine (cmpNat_gt _ _ (y * M) R _ hv4 (hvr.below (hb3.trans (hb4.mono hb3.size)) (Nat.le_refl _)) (by omega)).mono ?_; rintro e w5 ⟨c, rfl, hc, nq, rfl⟩))
            go_roundw
            case rel => exact ⟨l, M - 1, rfl, by rw [hM]; go_num, by omega, by omega, Hl1.out, by rw [show M - 1 + 1 = M from by omega]; omega, below_drewN nq (hb2.trans ((hb3.trans (hb4.mono hb3.size)).mono hsz2))⟩
            case measure => simp [intOf]; omega
        · obtain rfl : h = l := by omega
          have hdig : R / y = h := Nat.div_eq_of_lt_le (by rw [Nat.mul_comm]; exact Hl1.out) (by rw [Nat.mul_comm]; exact Hh1.out)
          have Hdg := Lib.hid hdig; clear hdig
          have hown2 := below_own hown1 hb2 (Nat.le_refl _)
          have hcQ : wr.cell? ⟨w.heap.size, q, none⟩ = some (.int .i64 (xs.getD q 0 : Nat)) := own_cell hown2 Hlen.out (by omega)
          have hfQ : wr.frozen? ⟨w.heap.size, q, none⟩ = false := hown2.frozenAt q
          have hown3 := own_stored (j := q) (x := (h : Int)) (y := h) rfl hown2
          have hbel3 := (hbel1.trans (hb2.mono (Nat.le_of_lt hlt1))).setCell (p := ⟨w.heap.size, q, none⟩) (Nat.le_refl _) (.int .i64 (h : Nat))
          have hv3 := (hvR.below hb2 (Nat.le_refl _)).setCell (p := ⟨w.heap.size, q, none⟩) Hat.out (.int .i64 (h : Nat))
          have hB3 := HB.out.below hbel3 (Nat.le_refl _)
          have Hown3 := Lib.hid hown3; clear hown3 hown2
          have Hv3 := Lib.hid hv3; clear hv3
          have HB3 := Lib.hid hB3; clear hB3
          have Hbel3 := Lib.hid hbel3; clear hbel3
          have hyl : y * h ≤ R := Hl1.out
          obtain ⟨Y, hY⟩ : ∃ Y, Y = y * h := ⟨_, rfl⟩
          have hYb : ln 10000 Y ≤ 549755813900 := Nat.le_trans (ln_mono _ _ _ (by omega) (by rw [hY]; exact hyl)) (by omega)
          have HY := Lib.hid hY; clear hY hyl
          have hly' : ln 10000 y ≤ 1099511627776 := by omega
          have hlh : ln 10000 h ≤ 1099511627776 := Nat.le_trans (ln_small h (by omega)) (by omega)
          go_wp2_with (first
            | (go_at_call 72; refine (fromInt_eq _ h _ rfl (by omega)).mono ?_; rintro e w3 ⟨⟨v3, rfl, hv3⟩, hb3⟩)
            | (go_at_call 60; refine (mulNat_any _ _ y h _ (HB3.out.below hb3 (Nat.le_refl _)) hv3 hly' hlh).mono ?_; rintro e w4 ⟨⟨v4, rfl, hv4⟩, hb4⟩)
            | (go_at_call 90; refine (subNat_any _ _ R (y * h) _ (Hv3.out.below (hb3.trans (hb4.mono hb3.size)) (Nat.le_refl _)) hv4 (by omega) Hl1.out).mono ?_; rintro e w5 ⟨⟨v5, rfl, hv5⟩, hb5⟩))
          have hbs := (hb3.trans (hb4.mono hb3.size)).trans (hb5.mono (hb3.trans (hb4.mono hb3.size)).size)
          have hown5 := below_own Hown3.out hbs (Nat.le_refl _)
          have hbel5 := Hbel3.out.trans (hbs.mono Hbel3.out.size)
          have hlt5 : w.heap.size < w5.heap.size := by
            have h1 := hbs.size
            have h2 := hb2.size
            simp [World.setCell] at h1
            omega
          have hmod : R - y * h = R % y := by
            have := Nat.div_add_mod R y
            rw [Hdg.out] at this
            omega
          rw [hmod] at hv5
          have Hmod := Lib.hid hmod; clear hmod
          clear hb3 hb4 hb5 hbs hv3 hv4
          go_roundw
          case rel => exact ⟨q, xs.set q h, by go_num, by omega, by rw [List.length_set]; exact Hlen.out, Dig.set (b := 10000) Hdig.out _ _ (by omega), by
            rw [val_drop_step _ _ _ (by rw [List.length_set, Hlen.out]; omega), List.getElem_set_self, List.drop_set_of_lt (Nat.lt_add_one _), Hval.out, Hstep.out.1, ← HR.out, Hdg.out]; exact Nat.add_comm _ _, by
            rw [Hstep.out.2, ← HR.out]; exact hv5, hown5, hbel5, hlt5⟩
          case measure => simp [intOf]
    · obtain rfl : k = 0 := by omega
      go_wp2_with (go_at_call 94; refine (trim_any _ xs _ Hdig.out (by rw [Hlen.out]; exact rowF_own xs Hlen.out hown)).mono ?_; rintro e w' ⟨⟨v', rfl, hv'⟩, rfl⟩)
      go_ret2
      have e1 := Hval.out
      simp only [List.drop_zero, Nat.pow_zero, Nat.div_one] at e1 hrem
      rw [e1] at hv'
      exact ⟨⟨_, _, rfl, hv', hrem⟩, hbel⟩

theorem lnz {b x : Nat} (hb : 2 ≤ b) (h : 0 < x) : 0 < ln b x := by
  have := (ln_eq_zero b x hb)
  omega

set_option maxRecDepth 100000 in
set_option maxHeartbeats 1600000 in
/-- The model's greatest common divisor. -/
theorem gcdNat_any (va vb : Value) (x y : Nat) (w : World) (ha : Nums 3 .i64 10000 w va x) (hb : Nums 3 .i64 10000 w vb y) (hlx : ln 10000 x ≤ 549755813888) (hly : ln 10000 y ≤ 549755813888) :
    Calls Tryd.prog 78 #[va, vb] w fun e w' => (∃ v, e = .returned v ∧ Nums 3 .i64 10000 w' v (Nat.gcd x y)) ∧ Below w.heap.size w w' := by
  have Ha := Lib.hid ha; clear ha
  have Hb := Lib.hid hb; clear hb
  go_enter Tryd.func78, Tryd.ntmps78
  go_wp2_with fail
  go_loopg [0, 1] y (fun q va vb wr => ∃ p : Nat, Nums 3 .i64 10000 wr va p ∧ Nums 3 .i64 10000 wr vb q ∧ ln 10000 p ≤ 549755813888 ∧ ln 10000 q ≤ 549755813888 ∧ Nat.gcd p q = Nat.gcd x y ∧ Below w.heap.size w wr)
  case atStart => exact ⟨x, Ha.out, Hb.out, hlx, hly, rfl, Below.refl _ _⟩
  case round =>
    obtain ⟨p, hp, hq, hlp, hlq, hg, hbel⟩ := hrel
    have Hg := Lib.hid hg; clear hg
    have Hp := Lib.hid hp; clear hp
    have Hq := Lib.hid hq; clear hq
    obtain ⟨Ab, cb, rfl, hcb, hcb', _⟩ := RowF.open Hq.out
    by_cases h0 : 0 < gk
    · have hl0 := lnz (b := 10000) (by omega) h0
      go_wp2_with (go_at_call 71; refine (divNat_any _ _ p gk _ Hp.out Hq.out h0 hlp hlq).mono ?_; rintro e w3 ⟨⟨v3, v4, rfl, hv3, hv4⟩, hb3⟩)
      go_roundg (p % gk)
      case rel => exact ⟨gk, Hq.out.below hb3 (Nat.le_refl _), hv4, hlq, Nat.le_trans (ln_mono _ _ _ (by omega) (Nat.le_of_lt (Nat.mod_lt _ h0))) hlq, by rw [← Hg.out, Nat.gcd_comm p gk, Nat.gcd_rec gk p, Nat.gcd_comm], hbel.trans (hb3.mono hbel.size)⟩
      case measure => exact Nat.mod_lt _ h0
    · obtain rfl : gk = 0 := by omega
      have hl0 : ¬ 0 < ln 10000 0 := by simp [ln_zero]
      rw [ln_zero]
      go_wp2_with fail
      go_ret
      refine ⟨⟨_, rfl, ?_⟩, hbel⟩
      rw [← Hg.out, Nat.gcd_zero_right]
      exact Hp.out

end Go.Proofs.YtdjldhkmcmbiiaaDoor
