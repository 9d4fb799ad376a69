/-
  The model's lengths of all texts, each cut off at 6001. (Written by gen_fx2.py.)
-/
import Derived.Test.YtoaiejodbmkbjaaGreatDoorFxE
namespace Go.Proofs.YtoaiejodbmkbjaaGreatDoor
open Go.RowKit Num

set_option maxRecDepth 100000 in
theorem least_any (a b : Int) (w : World) : Calls Tryz.prog 42 #[.int .i64 a, .int .i64 b] w fun e w' => e = .returned (.int .i64 (min a b)) ∧ w = w' := by
  by_cases h : a < b
  · have hd : decide (a < b) = true := decide_eq_true h
    have hm : min a b = a := by omega
    rw [hm]
    go_enter Tryz.func42, Tryz.ntmps42
    go_wp2_with fail
    go_ret
    exact ⟨rfl, rfl⟩
  · have hd : decide (a < b) = false := decide_eq_false h
    have hm : min a b = b := by omega
    rw [hm]
    go_enter Tryz.func42, Tryz.ntmps42
    go_wp2_with fail
    go_ret
    exact ⟨rfl, rfl⟩

/-- The cells are n ints. -/
def IntsC (cs : Array Value) (n : Nat) (g : Nat → Int) : Prop := cs.size = n ∧ ∀ j, j < n → cs[j]? = some (.int .i64 (g j))
theorem IntsC.made (n : Nat) : IntsC (madeCells #[.int .i64 0] n) n (fun _ => 0) := by
  refine ⟨size_madeCells _ _, fun m hm => ?_⟩
  have h1 : (madeCells #[Value.int .i64 0] n).toList[m]? = some (.int .i64 0) := by rw [toList_madeCells_one, List.getElem?_replicate, if_pos hm]
  rw [← Array.getElem?_toList, h1]
theorem IntsC.put {cs : Array Value} {n k : Nat} {g : Nat → Int} (h : IntsC cs n g) (hk : k < n) (v : Int) : IntsC (cs.setIfInBounds k (.int .i64 v)) n (fun j => if j = k then v else g j) := by
  refine ⟨by rw [Array.size_setIfInBounds]; exact h.1, fun j hj => ?_⟩
  rw [Array.getElem?_setIfInBounds]
  by_cases hjk : k = j
  · subst hjk
    rw [if_pos rfl, if_pos (by rw [h.1]; exact hk)]
    simp only [if_true]
  · rw [if_neg hjk]
    simp only [if_neg (Ne.symm hjk)]
    exact h.2 j hj
theorem IntsC.at_ {cs : Array Value} {n k : Nat} {g : Nat → Int} (h : IntsC cs n g) {w : World} {G : Nat} {t : TypeId} (hb : Box w G t cs) (hk : k < n) : w.cell? ⟨G, k, none⟩ = some (.int .i64 (g k)) := by
  rw [hb.cell]; exact h.2 k hk
theorem IntsC.congr {cs : Array Value} {n : Nat} {g h : Nat → Int} (k : IntsC cs n g) (e : ∀ j, j < n → g j = h j) : IntsC cs n h := ⟨k.1, fun j hj => by rw [← e j hj]; exact k.2 j hj⟩

theorem szs_zero (F : Nat → Nat → Int) (vn : Nat → ByteArray) : szs F vn 0 = fun _ => 0 := by
  funext j; simp [szs]
theorem szs_put {F : Nat → Nat → Int} {vn : Nat → ByteArray} {k : Nat} {a s : Int} (h : s = ((min (full F vn k).size 6001 : Nat) : Int)) (j : Nat) : (if j = k then s else (if j = k then a else szs F vn k j)) = szs F vn (k + 1) j := by
  unfold szs
  by_cases hj : j = k
  · subst hj
    rw [if_pos rfl, if_pos (Nat.lt_succ_self _), h]
  · rw [if_neg hj, if_neg hj]
    by_cases hl : j < k
    · rw [if_pos hl, if_pos (by omega)]
    · rw [if_neg hl, if_neg (by omega)]
theorem szs_at {F : Nat → Nat → Int} {vn : Nat → ByteArray} {k j : Nat} (h : j < k) : szs F vn k j = ((min (full F vn j).size 6001 : Nat) : Int) := if_pos h
theorem name_size {s : ByteArray} (h : nameOk s = true) : 1 ≤ s.size ∧ s.size ≤ 8 := by
  by_cases hs : 1 ≤ s.size ∧ s.size ≤ 8
  · exact hs
  · rw [nameOk_false_len hs] at h; cases h
theorem VarsOk.sizes {P : Prg} (h : VarsOk P) : ∀ j, j < P.nv → 1 ≤ (P.vn j).size ∧ (P.vn j).size ≤ 8 := fun j hj => name_size (h.1 j hj).1
theorem cell_far {w : World} {p a : Addr} {v : Value} {x : Option Value} (h : p ≠ a) (e : w.cell? a = x) : (w.setCell p v).cell? a = x := by
  rw [World.cell?_setCell_other (h := h)]
  exact e

set_option maxRecDepth 100000 in
set_option maxHeartbeats 6400000 in
theorem size_any (lo : Nat) (P : Prg) (Av Ax As Ap Ab : Option Addr) (cv cx cs cp cb e : Nat) (w : World) (hx : exsOk P.ex P.nv P.nx = true) (hnx : P.nx ≤ 40) (hvo : VarsOk P) (he : e < P.nx) (h : PgAt lo w Av Ax As Ap Ab P) :
    Calls Tryz.prog 16 #[.agg #[.slice Av P.nv cv, .slice Ax P.nx cx, .slice As P.ns cs, .slice Ap P.np cp, .slice Ab P.nb cb, .int .i64 P.fuel], .int .i64 (e : Nat)] w fun r w' => r = .returned (.int .i64 ((min (full P.ex P.vn e).size 6001 : Nat) : Int)) ∧ Below w.heap.size w w' := by
  have hP := Box.new w 37 #[.slice Av P.nv cv, .slice Ax P.nx cx, .slice As P.ns cs, .slice Ap P.np cp, .slice Ab P.nb cb, .int .i64 P.fuel]
  have hB := (Below.refl w.heap.size w).alloc (Nat.le_refl _) (.cells #[.slice Av P.nv cv, .slice Ax P.nx cx, .slice As P.ns cs, .slice Ap P.np cp, .slice Ab P.nb cb, .int .i64 P.fuel] 37)
  obtain ⟨n, hn⟩ : ∃ n, n = e + 1 := ⟨_, rfl⟩
  have hmk := mk_int n (by omega)
  have wn : IntKind.i64.wrap ((e : Int) + 1) = (n : Int) := by rw [IntWalk.i64_in _ (by omega)]; omega
  obtain ⟨w1, hw1⟩ : ∃ w1, w1 = w.alloc (.cells #[.slice Av P.nv cv, .slice Ax P.nx cx, .slice As P.ns cs, .slice Ap P.np cp, .slice Ab P.nb cb, .int .i64 P.fuel] 37) := ⟨_, rfl⟩
  rw [← hw1] at hP hB
  obtain ⟨G, hG⟩ : ∃ G, G = w.heap.size + 1 := ⟨_, rfl⟩
  have hG1 : w1.heap.size = G := by rw [hw1, hG]; simp
  have hPG : w.heap.size ≠ G := by omega
  have hX := Box.new w1 3 (madeCells #[.int .i64 0] n)
  rw [hG1] at hX
  have hal := (Below.refl w1.heap.size w1).alloc (Nat.le_refl _) (.cells (madeCells #[.int .i64 0] n) 3)
  have hP2 := hP.alloc (.cells (madeCells #[.int .i64 0] n) 3)
  have hB2 := hB.trans (hal.mono hB.size)
  obtain ⟨w2, hw2⟩ : ∃ w2, w2 = w1.alloc (.cells (madeCells #[.int .i64 0] n) 3) := ⟨_, rfl⟩
  rw [← hw2] at hX hP2 hB2
  obtain ⟨q0, q1, q2, q3, q4, q5, qf⟩ := hP.six
  have H := Lib.hid h
  have HX := Lib.hid hx
  have HV := Lib.hid hvo
  have HN := Lib.hid hn
  have hne : n ≤ P.nx := by omega
  have hen : (e : Int) < (n : Int) := by omega
  have CN : Hid (∀ (v : Nat) W, v < 10000 → _) := Lib.hid fun v W hv => num_any v hv W
  have CL : Hid (∀ a b W, _) := Lib.hid fun a b W => least_any a b W
  have CO : Hid (∀ W, _) := Lib.hid fun W => l4Ops_any W
  clear h hx hvo hal hP hB hn
  go_enter Tryz.func16, Tryz.ntmps16
  go_upto_region 2 with fail
  rw [← hw1, ← hG, ← hw2]
  have HG := Lib.hid hG
  clear hw1 hw2 hmk hG hG1 q0 q1 q2 q3 q4 q5 qf wn
  go_wp2_with fail
  go_loopg [13] n (fun q iv wr => ∃ (k : Nat) (cs' : Array Value), k + q = n ∧ iv = .int .i64 (k : Nat) ∧ Hid (IntsC cs' n (szs P.ex P.vn k)) ∧ Box wr G 3 cs' ∧ Below w.heap.size w wr ∧ Box wr w.heap.size 37 #[.slice Av P.nv cv, .slice Ax P.nx cx, .slice As P.ns cs, .slice Ap P.np cp, .slice Ab P.nb cb, .int .i64 P.fuel])
  case atStart => exact ⟨0, _, by omega, rfl, Lib.hid (by rw [szs_zero]; exact IntsC.made n), hX, hB2, hP2⟩
  case round =>
    rename World => w3
    obtain ⟨k, cs3, hk, rfl, hc, hbx, hbel, hP3⟩ := hrel
    by_cases hk0 : k < n
    · obtain ⟨b, off, rfl, hb, r0, r1, r2, r3⟩ := (H.out.below hbel (Nat.le_refl _)).x.1.at_ (show k < P.nx by omega)
      obtain ⟨q0, q1, q2, q3, q4, q5, qf⟩ := hP3.six
      have hkx : (k : Int) < (P.nx : Int) := by omega
      have hkn : (k : Int) < (n : Int) := by omega
      have hk1 : k < P.nx := by omega
      by_cases o1 : P.ex k 0 = 1
      · obtain ⟨hf, hv0, hv1⟩ := full_const (vn := P.vn) HX.out hk1 o1
        obtain ⟨v, hv⟩ : ∃ v : Nat, P.ex k 3 = (v : Int) := ⟨(P.ex k 3).toNat, by omega⟩
        rw [hv] at hf r3
        rw [o1] at r0
        have hsz := size_dec (n := v) (by omega)
        have hlen : (⟨(decL v).toArray⟩ : ByteArray).size = (decL v).length := by simp [ByteArray.size]
        have hfs : (full P.ex P.vn k).size = (decL v).length := by rw [hf, ← hlen]; rfl
        have HF : Hid (min ((decL v).length : Int) 6001 = ((min (full P.ex P.vn k).size 6001 : Nat) : Int)) := Lib.hid (by rw [hfs]; omega)
        have hal := (Below.refl w3.heap.size w3).alloc (Nat.le_refl _) (.cells #[.int .i64 1, .int .i64 (P.ex k 1), .int .i64 (P.ex k 2), .int .i64 (v : Nat)] 80)
        have hv10 : v < 10000 := by omega
        clear hf hv o1 hsz hlen hfs
        go_wp2_with (first
          | (go_at_call 40; refine (CN.out v _ hv10).mono ?_; rintro e5 w5 ⟨rfl, hb5⟩; have hb6 := hal.trans (hb5.mono hal.size); have hx5 := hbx.below hb6 hbx.lt; have hP5 := hP3.below hb6 hP3.lt; have hB5 := hbel.trans (hb6.mono hbel.size); have k0 := hc.out.at_ hx5 hk0; have f0 := hx5.free k; have k1 := (hc.out.put hk0 ((decL v).length : Int)).at_ (hx5.set k _) hk0; have f1 := (hx5.set k (.int .i64 ((decL v).length : Int))).free k)
          | (go_at_call 42; refine (CL.out _ _ _).mono ?_; rintro e7 w7 ⟨rfl, rfl⟩))
        go_roundg (gk - 1)
        case rel =>
          exact ⟨k + 1, _, by omega, by go_num, Lib.hid (((hc.out.put hk0 _).put hk0 _).congr fun j _ => szs_put HF.out j), (hx5.set _ _).set _ _, (hB5.setCell (p := ⟨G, k, none⟩) (by rw [HG.out]; exact Nat.le_succ _) _).setCell (p := ⟨G, k, none⟩) (by rw [HG.out]; exact Nat.le_succ _) _, (hP5.far (Ne.symm hPG) _ _).far (Ne.symm hPG) _ _⟩
        case measure => omega
      · by_cases o2 : P.ex k 0 = 2
        · obtain ⟨hf, hv0, hv1⟩ := full_var (vn := P.vn) HX.out hk1 o2
          obtain ⟨v, hv⟩ : ∃ v : Nat, P.ex k 3 = (v : Int) := ⟨(P.ex k 3).toNat, by omega⟩
          rw [hv] at hf r3
          rw [o2] at r0
          have hvm : v < P.nv := by omega
          have hvi : (v : Int) < (P.nv : Int) := by omega
          obtain ⟨bv, offv, rfl, hbv, s0, s1⟩ := (H.out.below hbel (Nat.le_refl _)).v.at_ hvm
          have hsz := HV.out.sizes v hvm
          have HF : Hid (min ((P.vn v).size : Int) 6001 = ((min (full P.ex P.vn k).size 6001 : Nat) : Int)) := Lib.hid (by rw [hf]; show _ = ((min (P.vn v).size 6001 : Nat) : Int); omega)
          have hal := (Below.refl w3.heap.size w3).alloc (Nat.le_refl _) (.cells #[.int .i64 2, .int .i64 (P.ex k 1), .int .i64 (P.ex k 2), .int .i64 (v : Nat)] 80)
          have hx4 := hbx.below hal hbx.lt
          have hP4 := hP3.below hal hP3.lt
          have hB4 := hbel.trans (hal.mono hbel.size)
          have k0 := hc.out.at_ hx4 hk0
          have f0 := hx4.free k
          have k1 := (hc.out.put hk0 ((P.vn v).size : Int)).at_ (hx4.set k _) hk0
          have f1 := (hx4.set k (.int .i64 ((P.vn v).size : Int))).free k
          obtain ⟨p0, p1, p2, p3, p4, p5, pf⟩ := hP4.six
          have s2 := (hal.cell hbv).trans s0
          clear hf hv o1 o2 hsz s0 s1
          go_wp2_with (go_at_call 42; refine (CL.out _ _ _).mono ?_; rintro e7 w7 ⟨rfl, rfl⟩)
          go_roundg (gk - 1)
          case rel =>
            exact ⟨k + 1, _, by omega, by go_num, Lib.hid (((hc.out.put hk0 _).put hk0 _).congr fun j _ => szs_put HF.out j), (hx4.set _ _).set _ _, (hB4.setCell (p := ⟨G, k, none⟩) (by rw [HG.out]; exact Nat.le_succ _) _).setCell (p := ⟨G, k, none⟩) (by rw [HG.out]; exact Nat.le_succ _) _, (hP4.far (Ne.symm hPG) _ _).far (Ne.symm hPG) _ _⟩
          case measure => omega
        · have ho := ops_below HX.out hk1 o1 o2
          obtain ⟨i, hi⟩ : ∃ i : Nat, P.ex k 1 = (i : Int) := ⟨(P.ex k 1).toNat, by omega⟩
          have hik : i < k := by omega
          have hin : i < n := by omega
          have hii : (i : Int) < (n : Int) := by omega
          obtain ⟨x, hxd⟩ : ∃ x : Nat, x = min (full P.ex P.vn i).size 6001 := ⟨_, rfl⟩
          have hcx : szs P.ex P.vn k i = (x : Int) := by rw [szs_at hik, hxd]
          by_cases o10 : P.ex k 0 = 10
          · have hf := full_not (vn := P.vn) HX.out hk1 o10
            rw [hi] at hf r1
            rw [o10] at r0
            have hfs : (full P.ex P.vn k).size = (full P.ex P.vn i).size + 6 := by rw [hf, size_not]; rfl
            have HF : Hid (min ((x : Int) + 6) 6001 = ((min (full P.ex P.vn k).size 6001 : Nat) : Int)) := Lib.hid (by rw [hfs, hxd]; omega)
            have wx : IntKind.i64.wrap ((x : Int) + 6) = (x : Int) + 6 := IntWalk.i64_in _ (by omega)
            have hal := (Below.refl w3.heap.size w3).alloc (Nat.le_refl _) (.cells #[.int .i64 10, .int .i64 (i : Nat), .int .i64 (P.ex k 2), .int .i64 (P.ex k 3)] 80)
            have hx4 := hbx.below hal hbx.lt
            have hP4 := hP3.below hal hP3.lt
            have hB4 := hbel.trans (hal.mono hbel.size)
            have k0 := hc.out.at_ hx4 hk0
            have g0 := hc.out.at_ hx4 hin
            rw [hcx] at g0
            have f0 := hx4.free k
            have k1 := (hc.out.put hk0 ((x : Int) + 6)).at_ (hx4.set k _) hk0
            have f1 := (hx4.set k (.int .i64 ((x : Int) + 6))).free k
            clear hf hi o1 o2 o10 ho hfs hxd hcx
            go_wp2_with (go_at_call 42; refine (CL.out _ _ _).mono ?_; rintro e7 w7 ⟨rfl, rfl⟩)
            go_roundg (gk - 1)
            case rel =>
              exact ⟨k + 1, _, by omega, by go_num, Lib.hid (((hc.out.put hk0 _).put hk0 _).congr fun j _ => szs_put HF.out j), (hx4.set _ _).set _ _, (hB4.setCell (p := ⟨G, k, none⟩) (by rw [HG.out]; exact Nat.le_succ _) _).setCell (p := ⟨G, k, none⟩) (by rw [HG.out]; exact Nat.le_succ _) _, (hP4.far (Ne.symm hPG) _ _).far (Ne.symm hPG) _ _⟩
            case measure => omega
          · have hb3 := ho.2.1 o10
            obtain ⟨j, hj⟩ : ∃ j : Nat, P.ex k 2 = (j : Int) := ⟨(P.ex k 2).toNat, by omega⟩
            obtain ⟨o, hoo⟩ : ∃ o : Nat, P.ex k 0 = ((o + 3 : Nat) : Int) := ⟨(P.ex k 0).toNat - 3, by omega⟩
            have hf := full_op (vn := P.vn) HX.out hk1 o1 o2 o10
            have hjk : j < k := by omega
            have hjn : j < n := by omega
            have hji : (j : Int) < (n : Int) := by omega
            obtain ⟨y, hyd⟩ : ∃ y : Nat, y = min (full P.ex P.vn j).size 6001 := ⟨_, rfl⟩
            have hcy : szs P.ex P.vn k j = (y : Int) := by rw [szs_at hjk, hyd]
            have ho7 : o < 7 := by omega
            have ho8 : ¬ 7 ≤ (o : Int) := by omega
            have how : opW (P.ex k 0) = opW (3 + (o : Int)) := by rw [hoo]; congr 1; omega
            have hlw := opW_size (3 + (o : Int))
            rw [hi, hj, how] at hf
            rw [hi] at r1
            rw [hj] at r2
            have hfs : (full P.ex P.vn k).size = (full P.ex P.vn i).size + (full P.ex P.vn j).size + 4 + (opW (3 + (o : Int))).size := by rw [hf, size_op]; rfl
            have HF : Hid (min ((x : Int) + (y : Int) + 4 + ((opW (3 + (o : Int))).size : Int)) 6001 = ((min (full P.ex P.vn k).size 6001 : Nat) : Int)) := Lib.hid (by rw [hfs, hxd, hyd]; omega)
            obtain ⟨p, hp⟩ : ∃ p : Nat, p = o + 3 := ⟨_, rfl⟩
            rw [hoo, ← hp] at r0
            have e1 : ((p : Int) == 1) = false := by simp; omega
            have e2 : ((p : Int) == 2) = false := by simp; omega
            have e3 : ((p : Int) == 10) = false := by simp; omega
            have wq : IntKind.i64.wrap ((p : Int) - 3) = (o : Int) := by rw [IntWalk.i64_in _ (by omega)]; omega
            have wa : IntKind.i64.wrap ((x : Int) + (y : Int)) = (x : Int) + (y : Int) := IntWalk.i64_in _ (by omega)
            have wb : IntKind.i64.wrap ((x : Int) + (y : Int) + 4) = (x : Int) + (y : Int) + 4 := IntWalk.i64_in _ (by omega)
            have wc : IntKind.i64.wrap ((x : Int) + (y : Int) + 4 + ((opW (3 + (o : Int))).size : Int)) = (x : Int) + (y : Int) + 4 + ((opW (3 + (o : Int))).size : Int) := IntWalk.i64_in _ (by omega)
            have hal := (Below.refl w3.heap.size w3).alloc (Nat.le_refl _) (.cells #[.int .i64 (p : Nat), .int .i64 (i : Nat), .int .i64 (j : Nat), .int .i64 (P.ex k 3)] 80)
            have hT := Box.new w3 80 #[.int .i64 (p : Nat), .int .i64 (i : Nat), .int .i64 (j : Nat), .int .i64 (P.ex k 3)]
            have hTl := hT.lt
            have p0 := hT.cell 0
            have p1 := hT.cell 1
            have p2 := hT.cell 2
            have hGT : G ≠ w3.heap.size := Nat.ne_of_lt hbx.lt
            have hki : k ≠ i := by omega
            have hkj : k ≠ j := by omega
            have hx4 := hbx.below hal hbx.lt
            have hG4 := hx4.lt
            have hP4 := hP3.below hal hP3.lt
            have hB4 := hbel.trans (hal.mono hbel.size)
            have g0 := hc.out.at_ hx4 hin
            rw [hcx] at g0
            have g1 := hc.out.at_ hx4 hjn
            rw [hcy] at g1
            clear hf hi hj hoo how o1 o2 o10 ho hfs hxd hyd hcx hcy hlw hp hb3 hik hjk
            go_upto_region 7 with fail
            refine wp_region_held_drew (S := (fun w' => w'.cell? ⟨w3.heap.size, 0, none⟩ = some (.int .i64 (p : Nat)) ∧ w'.cell? ⟨w3.heap.size, 1, none⟩ = some (.int .i64 (i : Nat)) ∧ w'.cell? ⟨w3.heap.size, 2, none⟩ = some (.int .i64 (j : Nat)) ∧ w'.cell? ⟨G, i, none⟩ = some (.int .i64 (x : Nat)) ∧ w'.cell? ⟨G, j, none⟩ = some (.int .i64 (y : Nat)))) (by kernel_rfl) ?_ (fun hHeld => ?_)
            · (try dsimp only); exact ⟨p0, p1, p2, g0, g1⟩
            refine wpAnyH_take (i := 0) (v := .slice (some ⟨G, 0, none⟩) n n) rfl (by kernel_rfl) (by kernel_rfl) (by kernel_rfl) (fun _ _ _ h => h) (Or.inl ⟨by rfl, ?_⟩) (by assumption) ?_
            · intro w' hSw; (try dsimp only at hSw); go_simp
            (try simp only [Act.put, List.getElem_toArray, List.getElem_cons_zero, List.setIfInBounds_toArray, List.set_cons_zero, List.set_cons_succ])
            refine wpAnyH_take (i := 1) (v := .int .i64 (k : Nat)) rfl (by kernel_rfl) (by kernel_rfl) (by kernel_rfl) (fun _ _ _ h => h) (Or.inl ⟨by rfl, ?_⟩) (by assumption) ?_
            · intro w' hSw; (try dsimp only at hSw); go_simp
            (try simp only [Act.put, List.getElem_toArray, List.getElem_cons_zero, List.getElem_cons_succ, List.setIfInBounds_toArray, List.set_cons_zero, List.set_cons_succ])
            refine wpAnyH_take (i := 2) (v := .slice (some ⟨G, 0, none⟩) n n) rfl (by kernel_rfl) (by kernel_rfl) (by kernel_rfl) (fun _ _ _ h => h) (Or.inl ⟨by rfl, ?_⟩) (by assumption) ?_
            · intro w' hSw; (try dsimp only at hSw); go_simp
            (try simp only [Act.put, List.getElem_toArray, List.getElem_cons_zero, List.getElem_cons_succ, List.setIfInBounds_toArray, List.set_cons_zero, List.set_cons_succ])
            refine wpAnyH_take (i := 3) (v := .pointer (some ⟨w3.heap.size, 1, none⟩)) rfl (by kernel_rfl) (by kernel_rfl) (by kernel_rfl) (fun _ _ _ h => h) (Or.inl ⟨by rfl, ?_⟩) (by assumption) ?_
            · intro w' hSw; (try dsimp only at hSw); go_simp
            (try simp only [Act.put, List.getElem_toArray, List.getElem_cons_zero, List.getElem_cons_succ, List.setIfInBounds_toArray, List.set_cons_zero, List.set_cons_succ])
            refine wpAnyH_take (i := 4) (v := .int .i64 (i : Nat)) rfl (by kernel_rfl) (by kernel_rfl) (by kernel_rfl) (fun _ _ _ h => h) (Or.inl ⟨by rfl, ?_⟩) (by assumption) ?_
            · intro w' hSw; (try dsimp only at hSw); go_simp
            (try simp only [Act.put, List.getElem_toArray, List.getElem_cons_zero, List.getElem_cons_succ, List.setIfInBounds_toArray, List.set_cons_zero, List.set_cons_succ])
            refine wpAnyH_take (i := 5) (v := .pointer (some ⟨G, i, none⟩)) rfl (by kernel_rfl) (by kernel_rfl) (by kernel_rfl) (fun _ _ _ h => h) (Or.inl ⟨by rfl, ?_⟩) (by assumption) ?_
            · intro w' hSw; (try dsimp only at hSw); go_simp
            (try simp only [Act.put, List.getElem_toArray, List.getElem_cons_zero, List.getElem_cons_succ, List.setIfInBounds_toArray, List.set_cons_zero, List.set_cons_succ])
            refine wpAnyH_take (i := 6) (v := .int .i64 (x : Nat)) rfl (by kernel_rfl) (by kernel_rfl) (by kernel_rfl) (fun _ _ _ h => h) (Or.inl ⟨by rfl, ?_⟩) (by assumption) ?_
            · intro w' hSw; (try dsimp only at hSw); go_simp
            (try simp only [Act.put, List.getElem_toArray, List.getElem_cons_zero, List.getElem_cons_succ, List.setIfInBounds_toArray, List.set_cons_zero, List.set_cons_succ])
            refine wpAnyH_take (i := 7) (v := .slice (some ⟨G, 0, none⟩) n n) rfl (by kernel_rfl) (by kernel_rfl) (by kernel_rfl) (fun _ _ _ h => h) (Or.inl ⟨by rfl, ?_⟩) (by assumption) ?_
            · intro w' hSw; (try dsimp only at hSw); go_simp
            (try simp only [Act.put, List.getElem_toArray, List.getElem_cons_zero, List.getElem_cons_succ, List.setIfInBounds_toArray, List.set_cons_zero, List.set_cons_succ])
            refine wpAnyH_take (i := 8) (v := .pointer (some ⟨w3.heap.size, 2, none⟩)) rfl (by kernel_rfl) (by kernel_rfl) (by kernel_rfl) (fun _ _ _ h => h) (Or.inl ⟨by rfl, ?_⟩) (by assumption) ?_
            · intro w' hSw; (try dsimp only at hSw); go_simp
            (try simp only [Act.put, List.getElem_toArray, List.getElem_cons_zero, List.getElem_cons_succ, List.setIfInBounds_toArray, List.set_cons_zero, List.set_cons_succ])
            refine wpAnyH_take (i := 9) (v := .int .i64 (j : Nat)) rfl (by kernel_rfl) (by kernel_rfl) (by kernel_rfl) (fun _ _ _ h => h) (Or.inl ⟨by rfl, ?_⟩) (by assumption) ?_
            · intro w' hSw; (try dsimp only at hSw); go_simp
            (try simp only [Act.put, List.getElem_toArray, List.getElem_cons_zero, List.getElem_cons_succ, List.setIfInBounds_toArray, List.set_cons_zero, List.set_cons_succ])
            refine wpAnyH_take (i := 10) (v := .pointer (some ⟨G, j, none⟩)) rfl (by kernel_rfl) (by kernel_rfl) (by kernel_rfl) (fun _ _ _ h => h) (Or.inl ⟨by rfl, ?_⟩) (by assumption) ?_
            · intro w' hSw; (try dsimp only at hSw); go_simp
            (try simp only [Act.put, List.getElem_toArray, List.getElem_cons_zero, List.getElem_cons_succ, List.setIfInBounds_toArray, List.set_cons_zero, List.set_cons_succ])
            refine wpAnyH_take (i := 11) (v := .int .i64 (y : Nat)) rfl (by kernel_rfl) (by kernel_rfl) (by kernel_rfl) (fun _ _ _ h => h) (Or.inl ⟨by rfl, ?_⟩) (by assumption) ?_
            · intro w' hSw; (try dsimp only at hSw); go_simp
            (try simp only [Act.put, List.getElem_toArray, List.getElem_cons_zero, List.getElem_cons_succ, List.setIfInBounds_toArray, List.set_cons_zero, List.set_cons_succ])
            refine wpAnyH_take (i := 12) (v := .int .i64 ((x : Int) + (y : Int))) rfl (by kernel_rfl) (by kernel_rfl) (by kernel_rfl) (fun _ _ _ h => h) (Or.inl ⟨by rfl, ?_⟩) (by assumption) ?_
            · intro w' hSw; (try dsimp only at hSw); go_simp
            (try simp only [Act.put, List.getElem_toArray, List.getElem_cons_zero, List.getElem_cons_succ, List.setIfInBounds_toArray, List.set_cons_zero, List.set_cons_succ])
            refine wpAnyH_take (i := 13) (v := .int .i64 ((x : Int) + (y : Int) + 4)) rfl (by kernel_rfl) (by kernel_rfl) (by kernel_rfl) (fun _ _ _ h => h) (Or.inl ⟨by rfl, ?_⟩) (by assumption) ?_
            · intro w' hSw; (try dsimp only at hSw); go_simp
            (try simp only [Act.put, List.getElem_toArray, List.getElem_cons_zero, List.getElem_cons_succ, List.setIfInBounds_toArray, List.set_cons_zero, List.set_cons_succ])
            refine wpAnyH_take (i := 15) (v := .pointer (some ⟨w3.heap.size, 0, none⟩)) rfl (by kernel_rfl) (by kernel_rfl) (by kernel_rfl) (fun _ _ _ h => h) (Or.inl ⟨by rfl, ?_⟩) (by assumption) ?_
            · intro w' hSw; (try dsimp only at hSw); go_simp
            (try simp only [Act.put, List.getElem_toArray, List.getElem_cons_zero, List.getElem_cons_succ, List.setIfInBounds_toArray, List.set_cons_zero, List.set_cons_succ])
            refine wpAnyH_take (i := 16) (v := .int .i64 (p : Nat)) rfl (by kernel_rfl) (by kernel_rfl) (by kernel_rfl) (fun _ _ _ h => h) (Or.inl ⟨by rfl, ?_⟩) (by assumption) ?_
            · intro w' hSw; (try dsimp only at hSw); go_simp
            (try simp only [Act.put, List.getElem_toArray, List.getElem_cons_zero, List.getElem_cons_succ, List.setIfInBounds_toArray, List.set_cons_zero, List.set_cons_succ])
            refine wpAnyH_take (i := 17) (v := .int .i64 (o : Nat)) rfl (by kernel_rfl) (by kernel_rfl) (by kernel_rfl) (fun _ _ _ h => h) (Or.inl ⟨by rfl, ?_⟩) (by assumption) ?_
            · intro w' hSw; (try dsimp only at hSw); go_simp
            (try simp only [Act.put, List.getElem_toArray, List.getElem_cons_zero, List.getElem_cons_succ, List.setIfInBounds_toArray, List.set_cons_zero, List.set_cons_succ])
            refine wpAnyH_ready (rs := [14]) (by kernel_rfl) (by simp) ?_
            refine AllReadyH.cons rfl (fun K hK => ?_) AllReadyH.nil
            go_simp
            go_wp2_with (go_at_call 41; refine (CO.out _).mono ?_; rintro e w5 ⟨⟨A0, rfl, hs⟩, hb1⟩; obtain ⟨gb, off2, rfl, hgb, so⟩ := hs.at_ ho7; have hb6 : Below w3.heap.size w3 w5 := hal.trans (Below.mono ⟨hb1.os, hb1.tape, hb1.output, hb1.size, hb1.block⟩ hal.size); have hx5 := hbx.below hb6 hbx.lt; have hP5 := hP3.below hb6 hP3.lt; have hB5 := hbel.trans (hb6.mono hbel.size); have k0 := hc.out.at_ hx5 hk0; have f0 := hx5.free k; have k1 := (hc.out.put hk0 ((x : Int) + (y : Int) + 4 + ((opW (3 + (o : Int))).size : Int))).at_ (hx5.set k _) hk0; have f1 := (hx5.set k (.int .i64 ((x : Int) + (y : Int) + 4 + ((opW (3 + (o : Int))).size : Int)))).free k)
            refine hK.out _ _ ?_ (fun hHeld => ?_)
            · (try dsimp only); exact ⟨(hb1.cell hTl).trans p0, (hb1.cell hTl).trans p1, (hb1.cell hTl).trans p2, (hb1.cell hG4).trans g0, (hb1.cell hG4).trans g1⟩
            clear hK K
            (try simp only [Act.put, List.getElem_toArray, List.getElem_cons_zero, List.getElem_cons_succ, List.setIfInBounds_toArray, List.set_cons_zero, List.set_cons_succ])
            refine wpAnyH_take (i := 18) (v := .pointer (some ⟨gb, off2 + o, none⟩)) rfl (by kernel_rfl) (by kernel_rfl) (by kernel_rfl) (fun _ _ _ h => h) (Or.inl ⟨by rfl, ?_⟩) (by assumption) ?_
            · intro w' hSw; (try dsimp only at hSw); go_simp
            (try simp only [Act.put, List.getElem_toArray, List.getElem_cons_zero, List.getElem_cons_succ, List.setIfInBounds_toArray, List.set_cons_zero, List.set_cons_succ])
            refine wpAnyH_ready (rs := [19]) (by kernel_rfl) (by simp) ?_
            refine AllReadyH.cons rfl (fun K hK => ?_) AllReadyH.nil
            go_simp
            (try go_wp2_with fail)
            refine hK.out _ _ ?_ (fun hHeld => ?_)
            · (try dsimp only); assumption
            clear hK K
            (try simp only [Act.put, List.getElem_toArray, List.getElem_cons_zero, List.getElem_cons_succ, List.setIfInBounds_toArray, List.set_cons_zero, List.set_cons_succ])
            refine wpAnyH_ready (rs := [20]) (by kernel_rfl) (by simp) ?_
            refine AllReadyH.cons rfl (fun K hK => ?_) AllReadyH.nil
            go_simp
            (try go_wp2_with fail)
            refine hK.out _ _ ?_ (fun hHeld => ?_)
            · (try dsimp only); assumption
            clear hK K
            (try simp only [Act.put, List.getElem_toArray, List.getElem_cons_zero, List.getElem_cons_succ, List.setIfInBounds_toArray, List.set_cons_zero, List.set_cons_succ])
            refine wpAnyH_ready (rs := [21]) (by kernel_rfl) (by simp) ?_
            refine AllReadyH.cons rfl (fun K hK => ?_) AllReadyH.nil
            go_simp
            (try go_wp2_with fail)
            refine hK.out _ _ ?_ (fun hHeld => ?_)
            · (try dsimp only); assumption
            clear hK K
            (try simp only [Act.put, List.getElem_toArray, List.getElem_cons_zero, List.getElem_cons_succ, List.setIfInBounds_toArray, List.set_cons_zero, List.set_cons_succ])
            refine wpAnyH_take (i := 22) (v := .pointer (some ⟨G, k, none⟩)) rfl (by kernel_rfl) (by kernel_rfl) (by kernel_rfl) (fun _ _ _ h => h) (Or.inl ⟨by rfl, ?_⟩) (by assumption) ?_
            · intro w' hSw; (try dsimp only at hSw); go_simp
            (try simp only [Act.put, List.getElem_toArray, List.getElem_cons_zero, List.getElem_cons_succ, List.setIfInBounds_toArray, List.set_cons_zero, List.set_cons_succ])
            refine wpAnyH_ready (rs := [23]) (by kernel_rfl) (by simp) ?_
            refine AllReadyH.cons rfl (fun K hK => ?_) AllReadyH.nil
            go_simp
            (try go_wp2_with fail)
            refine hK.out _ _ ?_ (fun hHeld => ?_)
            · (try dsimp only); exact ⟨cell_far (fun h => hGT (congrArg Addr.block h)) hHeld.1, cell_far (fun h => hGT (congrArg Addr.block h)) hHeld.2.1, cell_far (fun h => hGT (congrArg Addr.block h)) hHeld.2.2.1, cell_far (fun h => hki (congrArg Addr.off h)) hHeld.2.2.2.1, cell_far (fun h => hkj (congrArg Addr.off h)) hHeld.2.2.2.2⟩
            clear hK K
            (try simp only [Act.put, List.getElem_toArray, List.getElem_cons_zero, List.getElem_cons_succ, List.setIfInBounds_toArray, List.set_cons_zero, List.set_cons_succ])
            refine wpAnyH_done (by kernel_rfl) ?_ _
            go_wp2_with (go_at_call 42; refine (CL.out _ _ _).mono ?_; rintro e7 w7 ⟨rfl, rfl⟩)
            go_roundg (gk - 1)
            case rel =>
              exact ⟨k + 1, _, by omega, by go_num, Lib.hid (((hc.out.put hk0 _).put hk0 _).congr fun j _ => szs_put HF.out j), (hx5.set _ _).set _ _, (hB5.setCell (p := ⟨G, k, none⟩) (by rw [HG.out]; exact Nat.le_succ _) _).setCell (p := ⟨G, k, none⟩) (by rw [HG.out]; exact Nat.le_succ _) _, (hP5.far (Ne.symm hPG) _ _).far (Ne.symm hPG) _ _⟩
            case measure => omega
    · obtain rfl : k = n := by omega
      have k0 := hc.out.at_ hbx (show e < k by rw [HN.out]; exact Nat.lt_succ_self _)
      rw [szs_at (show e < k by rw [HN.out]; exact Nat.lt_succ_self _)] at k0
      go_wp2_with fail
      go_ret
      exact ⟨rfl, hbel⟩

end Go.Proofs.YtoaiejodbmkbjaaGreatDoor
