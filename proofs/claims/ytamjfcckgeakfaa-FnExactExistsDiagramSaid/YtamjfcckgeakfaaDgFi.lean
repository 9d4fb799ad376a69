/-
  RestrictDiagram: the model's table with one level fixed.
-/
import Derived.Test.YtamjfcckgeakfaaDgJ
import Derived.Test.YtamjfcckgeakfaaDgN
import Derived.Test.YtamjfcckgeakfaaDgBx
import Derived.Lib.ConvBytes
namespace Go.Proofs.Ytamjfcckgeakfaa
open Go.RowKit Num

/-- Block g holds bytes, and the cell behind them is marked. -/
def FB (W : World) (g : Nat) (cs : Array Value) (m : Nat) : Prop := W.heap[g]? = some (.cells cs 5 (m, m + 1))
theorem FB.cell {W : World} {g : Nat} {cs : Array Value} {m : Nat} (h : FB W g cs m) (i : Nat) : W.cell? ⟨g, i, none⟩ = cs[i]? := by
  unfold FB at h
  simp [World.cell?, h]
theorem FB.free {W : World} {g : Nat} {cs : Array Value} {m : Nat} (h : FB W g cs m) {i : Nat} (hi : i < m) : W.frozen? ⟨g, i, none⟩ = false := by
  unfold FB at h
  simp [World.frozen?, h]
  omega
theorem FB.lt {W : World} {g : Nat} {cs : Array Value} {m : Nat} (h : FB W g cs m) : g < W.heap.size := heap_lt h
theorem FB.set {W : World} {g : Nat} {cs : Array Value} {m : Nat} (h : FB W g cs m) (i : Nat) (v : Value) : FB (W.setCell ⟨g, i, none⟩ v) g (cs.setIfInBounds i v) m := by
  unfold FB at h ⊢
  obtain ⟨hlt, hk⟩ := Array.getElem?_eq_some_iff.1 h
  show (W.heap.modify g _)[g]? = _
  rw [Array.getElem?_eq_getElem (by rw [Array.size_modify]; exact hlt), Array.getElem_modify_self, hk]
  rfl

theorem below_bytes (w : World) (e : TypeId) (s : ByteArray) : Below w.heap.size w (Lib.bytesWorld w e s) :=
  ⟨rfl, rfl, rfl, by rw [Lib.bytesWorld_size]; exact Nat.le_succ _, fun k hk => Lib.bytesWorld_at_old w e s k hk⟩

theorem fx_lt {p L j : Nat} (b : Bool) (hp : p < L) (hj : j < 2 ^ L) : Dg.fx p b j < 2 ^ L := by
  obtain ⟨d, rfl⟩ : ∃ d, L = p + 1 + d := ⟨L - (p + 1), by omega⟩
  have h0 : 0 < 2 ^ p := Nat.pow_pos (by omega)
  have h1 : j / 2 ^ (p + 1) < 2 ^ d := Nat.div_lt_of_lt_mul (by rw [← Nat.pow_add]; exact hj)
  have h2 := Dg.fx_div p b j
  generalize hy : j / 2 ^ (p + 1) = y at h1 h2
  generalize hy : j / 2 ^ (p + 1) = y at h1 h2
  generalize hy : j / 2 ^ (p + 1) = y at h1 h2
  have h3 : Dg.fx p b j / 2 ^ p < 2 ^ (d + 1) := by
    have h5 : (2 : Nat) ^ (d + 1) = 2 ^ d * 2 := Nat.pow_succ 2 d
    have : b.toNat ≤ 1 := Bool.toNat_le b
    rw [h2, h5]
    omega
  have h4 := (Nat.div_lt_iff_lt_mul h0).1 h3
  rwa [← Nat.pow_add, show d + 1 + p = p + 1 + d by omega] at h4

/-- Digit j of i is K's, where K is i with digit v fixed. -/
theorem fix_digit {L v j : Nat} (val : Bool) (i : Nat) (hv : v < L) (hj : j < L) : Dg.fx (L - 1 - v) val i / 2 ^ (L - 1 - j) % 2 = if j = v then val.toNat else i / 2 ^ (L - 1 - j) % 2 := by
  by_cases h : j = v
  · subst h; rw [if_pos rfl, Dg.fx_at]
  · rw [if_neg h, Dg.fx_other _ _ _ _ (by omega)]

/-- Bytes of the digits of K. -/
def DgtsAt (W : World) (g L K : Nat) : Prop := ∃ cs m, FB W g cs m ∧ L ≤ m ∧ ∀ j, j < L → cs[j]? = some (.int .u8 ((48 + K / 2 ^ (L - 1 - j) % 2 : Nat) : Int))

theorem digit_u8 (i q : Nat) : ((UInt8.ofNat (48 + i / 2 ^ q % 2)).toNat : Int) = ((48 + i / 2 ^ q % 2 : Nat) : Int) := by
  have : i / 2 ^ q % 2 < 2 := Nat.mod_lt _ (by omega)
  generalize i / 2 ^ q % 2 = b at this ⊢
  have hb : b = 0 ∨ b = 1 := by omega
  rcases hb with rfl | rfl <;> rfl

set_option maxRecDepth 100000 in
set_option maxHeartbeats 6400000 in
theorem specFix_any (T : Nat → Bool) (L v : Nat) (val : Bool) (w : World) (hL : L ≤ 10) (hv : v < L) :
    Calls Try.prog 42 #[.string (tbS T (2 ^ L)), .int .i64 (L : Nat), .int .i64 (v : Nat), .bool val] w fun e w' => e = .returned (.string (tbS (fun j => T (Dg.fx (L - 1 - v) val j)) (2 ^ L))) ∧ Below w.heap.size w w' := by
  have hpw : 2 ^ L ≤ 1024 := Nat.le_trans (Nat.pow_le_pow_right (by omega) (show L ≤ 10 by omega)) (by decide)
  have sT := tbS_size T (2 ^ L)
  have HT := Lib.hid (tbS_at T (2 ^ L))
  have HK : Hid (∀ k, k < 2 ^ L → Dg.fx (L - 1 - v) val k < 2 ^ L) := Lib.hid fun k hk => fx_lt val (by omega) hk
  have HD : Hid (∀ k j, j < L → Dg.fx (L - 1 - v) val k / 2 ^ (L - 1 - j) % 2 = if j = v then val.toNat else k / 2 ^ (L - 1 - j) % 2) := Lib.hid fun k j hj => fix_digit val k hv hj
  have HV : Hid (∀ k, (fun j => T (Dg.fx (L - 1 - v) val j)) k = T (Dg.fx (L - 1 - v) val k)) := Lib.hid fun _ => rfl
  generalize (fun j => T (Dg.fx (L - 1 - v) val j)) = V at HV ⊢
  generalize Dg.fx (L - 1 - v) val = X at HK HD HV
  have HP : Hid (∀ (k t : Nat), t ≤ L → X k < 2 ^ L → X k / 2 ^ (L - t) < 2 ^ L) := Lib.hid fun k t _ h => Nat.lt_of_le_of_lt (Nat.div_le_self _ _) h
  have HX : Hid (∀ k, k < 2 ^ L → X k / 2 ^ (L - 0) = 0) := Lib.hid fun k hk => Nat.div_eq_of_lt (HK.out k hk)
  have CN : Hid (∀ i W, i ≤ 1048576 → _) := Lib.hid fun i W hi => specNum_any i L W hi (by omega)
  have hmk := mk_bytes (2 ^ L) (by omega)
  generalize tbS T (2 ^ L) = a at sT HT ⊢
  rw [← sT] at hmk hpw HK HP HX ⊢
  have HS := Lib.hid sT
  clear sT
  have hvi : (v : Int) < (L : Int) := by omega
  go_enter Try.func42, Try.ntmps42
  go_wp2_with fail
  clear hmk
  have hG := Box.new w 5 (madeCells #[.int .u8 0] a.size)
  have hB := (Below.refl w.heap.size w).alloc (Nat.le_refl _) (.cells (madeCells #[.int .u8 0] a.size) 5)
  generalize hW : World.alloc _ _ = W0 at hB hG ⊢
  clear hW
  have hK : TabU V a.size w.heap.size 0 w W0 := ⟨⟨_, hG, size_madeCells _ _, fun j h => by omega⟩, hB⟩
  clear hG hB
  go_loopg [20] a.size (fun q iv wr => ∃ k : Nat, k + q = a.size ∧ iv = .int .i64 (k : Nat) ∧ TabU V a.size w.heap.size k w wr)
  case atStart => exact ⟨0, by omega, rfl, hK⟩
  case round =>
    clear hK
    obtain ⟨k, hk, rfl, hK⟩ := hrel
    by_cases hk0 : k < a.size
    · have hKk := HK.out k hk0
      have HB := Lib.hid hK
      clear hK
      have hsz : (⟨(bin L k).toArray⟩ : ByteArray).size = L := by show (bin L k).toArray.size = L; rw [List.size_toArray, bin_len]
      go_upto_region 6 with (first
        | (go_at_call 67
           refine (CN.out k _ (by omega)).mono ?_
           rintro e w3 ⟨rfl, hb3⟩
           have hcv := Lib.run_convert_string_bytes (P := Try.prog) w3 9 43 5 ⟨(bin L k).toArray⟩ Try.underlying9 Try.underlying43 Try.underlying5))
      clear hcv
      have hF : FB (Lib.bytesWorld w3 5 ⟨(bin L k).toArray⟩) w3.heap.size (Lib.bytesCells w3 5 ⟨(bin L k).toArray⟩) (Lib.bytesCells w3 5 ⟨(bin L k).toArray⟩).size := Lib.bytesWorld_at_new _ _ _
      have hc0 : ∀ j, j < L → (Lib.bytesCells w3 5 ⟨(bin L k).toArray⟩)[j]? = some (.int .u8 ((48 + k / 2 ^ (L - 1 - j) % 2 : Nat) : Int)) := fun j hj => by
        rw [← hF.cell j, Lib.bytesWorld_cell _ _ _ _ (by rw [hsz]; exact hj)]
        have hb := bin_get L k j hj
        show some (Value.int .u8 (((bin L k).getD j 0).toNat : Int)) = _
        rw [List.getD_eq_getElem?_getD, hb]
        exact congrArg (fun z => some (Value.int .u8 z)) (digit_u8 k (L - 1 - j))
      have hm : L ≤ (Lib.bytesCells w3 5 ⟨(bin L k).toArray⟩).size := by
        rcases Nat.lt_or_ge (Lib.bytesCells w3 5 ⟨(bin L k).toArray⟩).size L with h | h
        · have := hc0 (L - 1) (by omega)
          obtain ⟨h1, _⟩ := Array.getElem?_eq_some_iff.1 this
          omega
        · exact h
      have HB3 := Lib.hid ((HB.out.by hb3).by (below_bytes w3 5 ⟨(bin L k).toArray⟩))
      have hgl : w.heap.size < w3.heap.size := by
        obtain ⟨cs, hG, _⟩ := (HB.out.by hb3).tab
        exact hG.lt
      generalize (Lib.bytesCells w3 5 ⟨(bin L k).toArray⟩).size = m0 at hF hm
      generalize Lib.bytesCells w3 5 ⟨(bin L k).toArray⟩ = cs0 at hF hc0
      generalize Lib.bytesWorld w3 5 ⟨(bin L k).toArray⟩ = W1 at hF HB3 ⊢
      generalize grownCap w3 L 0 5 = cp
      generalize w3.heap.size = g at hF hgl ⊢
      clear hb3 hsz
      have cv := (hF.cell v).trans (hc0 v hv)
      have fv := hF.free (show v < m0 by omega)
      have hvc : v < cs0.size := (Array.getElem?_eq_some_iff.1 (hc0 v hv)).1
      have hF1 := hF.set v (.int .u8 48)
      have cv1 : (W1.setCell ⟨g, v, none⟩ (.int .u8 48)).cell? ⟨g, v, none⟩ = some (.int .u8 48) := by rw [hF1.cell v, Array.getElem?_setIfInBounds, if_pos rfl, if_pos hvc]
      have fv1 := hF1.free (show v < m0 by omega)
      cases val
      · -- the digit 0
        have HDG : Hid (DgtsAt (W1.setCell ⟨g, v, none⟩ (.int .u8 48)) g L (X k)) := Lib.hid ⟨cs0.setIfInBounds v (.int .u8 48), m0, hF1, hm, fun j hj => by
          rw [HD.out k j hj]
          by_cases hjv : j = v
          · subst hjv
            rw [if_pos rfl]
            simp [hvc]
          · rw [if_neg hjv]
            simp only [Array.getElem?_setIfInBounds]
            rw [if_neg (fun e => hjv e.symm)]
            exact hc0 j hj⟩
        have HB5 : Hid (TabU V a.size w.heap.size k w (W1.setCell ⟨g, v, none⟩ (.int .u8 48))) := Lib.hid ⟨(let ⟨cs, x, y, z⟩ := HB3.out.tab; ⟨cs, x.far3 (show g ≠ w.heap.size by omega) v _, y, z⟩), HB3.out.bel.setCell (p := ⟨g, v, none⟩) (by show w.heap.size ≤ g; omega) _⟩
        go_upto_region 10 with fail
        clear hF hc0 cv fv hF1 cv1 fv1 HB3
        generalize W1.setCell ⟨g, v, none⟩ (.int .u8 48) = W5 at HDG HB5 ⊢
        go_wp2_with fail
        go_loopg [12, 36] L (fun q kv iv wy => ∃ t : Nat, t + q = L ∧ kv = .int .i64 ((X k / 2 ^ (L - t) : Nat) : Int) ∧ iv = .int .i64 (t : Nat) ∧ DgtsAt wy g L (X k) ∧ TabU V a.size w.heap.size k w wy)
        case atStart => exact ⟨0, by omega, by rw [HX.out k hk0]; rfl, rfl, HDG.out, HB5.out⟩
        case round =>
          clear HDG HB5
          obtain ⟨t, ht, rfl, rfl, hDg, hTb⟩ := hrel
          by_cases ht0 : t < L
          · have HDg := Lib.hid hDg
            have HTb := Lib.hid hTb
            obtain ⟨cs, m, hFb, hmL, hcs⟩ := hDg
            have ct := (hFb.cell t).trans (hcs t ht0)
            have hyb := HP.out k t (by omega) hKk
            have hst : X k / 2 ^ (L - (t + 1)) = 2 * (X k / 2 ^ (L - t)) + X k / 2 ^ (L - 1 - t) % 2 := by
              rw [show L - t = (L - 1 - t) + 1 by omega, Nat.pow_succ, ← Nat.div_div_eq_div_mul, show L - (t + 1) = L - 1 - t by omega]
              omega
            have hb2 : X k / 2 ^ (L - 1 - t) % 2 = 0 ∨ X k / 2 ^ (L - 1 - t) % 2 = 1 := by omega
            have HST := Lib.hid hst
            clear hst hFb hcs hTb
            generalize X k / 2 ^ (L - t) = y at hyb HST ⊢
            have e2 : IntKind.i64.wrap (2 * (y : Int)) = 2 * (y : Int) := IntWalk.i64_in _ (by omega)
            have e3 : IntKind.i64.wrap (2 * (y : Int) + 1) = 2 * (y : Int) + 1 := IntWalk.i64_in _ (by omega)
            rcases hb2 with hb2 | hb2
            all_goals
              rw [hb2] at ct HST
              have HT1 := Lib.hid ht
              clear hb2 ht
              go_wp2_with fail
              go_roundg (gk - 1)
              case rel => exact ⟨t + 1, by have := HT1.out; omega, by rw [HST.out]; congr 1, by go_num, HDg.out, HTb.out⟩
              case measure => have := HT1.out; omega
          · obtain rfl : t = L := by omega
            rw [Nat.sub_self, Nat.pow_zero, Nat.div_one]
            have ea := HT.out (X k) hKk
            obtain ⟨g0, gf, _⟩ := hTb.all hk0
            have HTb := Lib.hid hTb
            have HVk := Lib.hid (HV.out k)
            have hkx : ((X k : Nat) : Int) < ((a.size : Nat) : Int) := by omega
            clear hTb hDg
            go_wp2_with fail
            go_roundg (a.size - (k + 1))
            case rel => exact ⟨k + 1, by omega, by go_num, TabU.next HTb.out (Nat.le_refl _) hk0 _ (by rw [HVk.out])⟩
            case measure => omega
      · -- the digit 1
        have hF2 := hF1.set v (.int .u8 49)
        have HDG : Hid (DgtsAt ((W1.setCell ⟨g, v, none⟩ (.int .u8 48)).setCell ⟨g, v, none⟩ (.int .u8 49)) g L (X k)) := Lib.hid ⟨(cs0.setIfInBounds v (.int .u8 48)).setIfInBounds v (.int .u8 49), m0, hF2, hm, fun j hj => by
          rw [HD.out k j hj]
          by_cases hjv : j = v
          · subst hjv
            rw [if_pos rfl]
            simp [hvc]
          · rw [if_neg hjv]
            simp only [Array.getElem?_setIfInBounds]
            rw [if_neg (fun e => hjv e.symm), if_neg (fun e => hjv e.symm)]
            exact hc0 j hj⟩
        have HB5 : Hid (TabU V a.size w.heap.size k w ((W1.setCell ⟨g, v, none⟩ (.int .u8 48)).setCell ⟨g, v, none⟩ (.int .u8 49))) := Lib.hid ⟨(let ⟨cs, x, y, z⟩ := HB3.out.tab; ⟨cs, (x.far3 (show g ≠ w.heap.size by omega) v _).far3 (show g ≠ w.heap.size by omega) v _, y, z⟩), (HB3.out.bel.setCell (p := ⟨g, v, none⟩) (by show w.heap.size ≤ g; omega) _).setCell (p := ⟨g, v, none⟩) (by show w.heap.size ≤ g; omega) _⟩
        go_upto_region 10 with fail
        clear hF hc0 cv fv hF1 cv1 fv1 HB3 hF2
        generalize (W1.setCell ⟨g, v, none⟩ (.int .u8 48)).setCell ⟨g, v, none⟩ (.int .u8 49) = W5 at HDG HB5 ⊢
        go_wp2_with fail
        go_loopg [12, 36] L (fun q kv iv wy => ∃ t : Nat, t + q = L ∧ kv = .int .i64 ((X k / 2 ^ (L - t) : Nat) : Int) ∧ iv = .int .i64 (t : Nat) ∧ DgtsAt wy g L (X k) ∧ TabU V a.size w.heap.size k w wy)
        case atStart => exact ⟨0, by omega, by rw [HX.out k hk0]; rfl, rfl, HDG.out, HB5.out⟩
        case round =>
          clear HDG HB5
          obtain ⟨t, ht, rfl, rfl, hDg, hTb⟩ := hrel
          by_cases ht0 : t < L
          · have HDg := Lib.hid hDg
            have HTb := Lib.hid hTb
            obtain ⟨cs, m, hFb, hmL, hcs⟩ := hDg
            have ct := (hFb.cell t).trans (hcs t ht0)
            have hyb := HP.out k t (by omega) hKk
            have hst : X k / 2 ^ (L - (t + 1)) = 2 * (X k / 2 ^ (L - t)) + X k / 2 ^ (L - 1 - t) % 2 := by
              rw [show L - t = (L - 1 - t) + 1 by omega, Nat.pow_succ, ← Nat.div_div_eq_div_mul, show L - (t + 1) = L - 1 - t by omega]
              omega
            have hb2 : X k / 2 ^ (L - 1 - t) % 2 = 0 ∨ X k / 2 ^ (L - 1 - t) % 2 = 1 := by omega
            have HST := Lib.hid hst
            clear hst hFb hcs hTb
            generalize X k / 2 ^ (L - t) = y at hyb HST ⊢
            have e2 : IntKind.i64.wrap (2 * (y : Int)) = 2 * (y : Int) := IntWalk.i64_in _ (by omega)
            have e3 : IntKind.i64.wrap (2 * (y : Int) + 1) = 2 * (y : Int) + 1 := IntWalk.i64_in _ (by omega)
            rcases hb2 with hb2 | hb2
            all_goals
              rw [hb2] at ct HST
              have HT1 := Lib.hid ht
              clear hb2 ht
              go_wp2_with fail
              go_roundg (gk - 1)
              case rel => exact ⟨t + 1, by have := HT1.out; omega, by rw [HST.out]; congr 1, by go_num, HDg.out, HTb.out⟩
              case measure => have := HT1.out; omega
          · obtain rfl : t = L := by omega
            rw [Nat.sub_self, Nat.pow_zero, Nat.div_one]
            have ea := HT.out (X k) hKk
            obtain ⟨g0, gf, _⟩ := hTb.all hk0
            have HTb := Lib.hid hTb
            have HVk := Lib.hid (HV.out k)
            have hkx : ((X k : Nat) : Int) < ((a.size : Nat) : Int) := by omega
            clear hTb hDg
            go_wp2_with fail
            go_roundg (a.size - (k + 1))
            case rel => exact ⟨k + 1, by omega, by go_num, TabU.next HTb.out (Nat.le_refl _) hk0 _ (by rw [HVk.out])⟩
            case measure => omega
    · obtain rfl : k = a.size := by omega
      have hcv := hK.text
      have hB := hK.bel
      clear hK
      go_wp2_with fail
      go_ret
      exact ⟨rfl, hB⟩

end Go.Proofs.Ytamjfcckgeakfaa
