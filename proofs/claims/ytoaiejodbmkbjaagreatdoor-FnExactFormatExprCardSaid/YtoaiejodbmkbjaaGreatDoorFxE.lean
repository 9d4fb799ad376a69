/-
  The program's texts of all expressions.
-/
import Derived.Test.YtoaiejodbmkbjaaGreatDoorFxD
import Derived.Laws.MakeOwn
namespace Go.Proofs.YtoaiejodbmkbjaaGreatDoor
open Go.RowKit Num

theorem Tryz.infoTxt : (Tryz.prog.info? 9).map (fun i => (i.zero, i.size, i.bytes)) = some (some (.string ⟨#[]⟩), 1, 16) := by kernel_rfl

theorem mk_txt (n : Nat) (hn : n ≤ 1048576) (w : World) :
    (Instr.makeSlice 56 (.int .i64 (n : Int)) (.int .i64 (n : Int))).run Tryz.prog w = .ok (.slice (some ⟨w.heap.size, 0, none⟩) n n) (w.alloc (.cells (madeCells #[.string ⟨#[]⟩] n) 9)) := by
  obtain ⟨i, hi, hzz⟩ := Option.map_eq_some_iff.1 Tryz.infoTxt
  simp only [Prod.mk.injEq] at hzz
  obtain ⟨hz, hs, hb⟩ := hzz
  have hr := run_make (P := Tryz.prog) w 56 9 i _ Tryz.underlying56 hi hz .i64 .i64 n n (by omega) (Int.le_refl _) (by rw [hb]; omega) (by omega)
  simp only [Int.toNat_natCast, hs, Value.cells, Nat.mul_one] at hr
  exact hr

/-- The cells are n texts. -/
def TxtC (cs : Array Value) (n : Nat) (g : Nat → ByteArray) : Prop := cs.size = n ∧ ∀ j, j < n → cs[j]? = some (.string (g j))
theorem TxtC.made (n : Nat) : TxtC (madeCells #[.string ⟨#[]⟩] n) n (fun _ => ⟨#[]⟩) := by
  refine ⟨size_madeCells _ _, fun m hm => ?_⟩
  have h1 : (madeCells #[Value.string ⟨#[]⟩] n).toList[m]? = some (.string ⟨#[]⟩) := by rw [toList_madeCells_one, List.getElem?_replicate, if_pos hm]
  rw [← Array.getElem?_toList, h1]
theorem TxtC.put {cs : Array Value} {n k : Nat} {g : Nat → ByteArray} (h : TxtC cs n g) (hk : k < n) (v : ByteArray) : TxtC (cs.setIfInBounds k (.string v)) n (fun j => if j = k then v else g j) := by
  refine ⟨by rw [Array.size_setIfInBounds]; exact h.1, fun j hj => ?_⟩
  rw [Array.getElem?_setIfInBounds]
  by_cases hjk : k = j
  · subst hjk
    rw [if_pos rfl, if_pos (by rw [h.1]; exact hk)]
    simp only [if_true]
  · rw [if_neg hjk]
    simp only [if_neg (Ne.symm hjk)]
    exact h.2 j hj
theorem TxtC.at_ {cs : Array Value} {n k : Nat} {g : Nat → ByteArray} (h : TxtC cs n g) {w : World} {G : Nat} {t : TypeId} (hb : Box w G t cs) (hk : k < n) : w.cell? ⟨G, k, none⟩ = some (.string (g k)) := by
  rw [hb.cell]; exact h.2 k hk
theorem TxtC.congr {cs : Array Value} {n : Nat} {g h : Nat → ByteArray} (k : TxtC cs n g) (e : ∀ j, j < n → g j = h j) : TxtC cs n h := ⟨k.1, fun j hj => by rw [← e j hj]; exact k.2 j hj⟩
theorem TxtC.list {cs : Array Value} {n : Nat} {g : Nat → ByteArray} (h : TxtC cs n g) {w : World} {G : Nat} {t : TypeId} (hb : Box w G t cs) : StL 0 w (some ⟨G, 0, none⟩) n g := fun _ => ⟨G, 0, rfl, ⟨Nat.zero_le _, hb.lt⟩, fun j hj => by rw [hb.cell, Nat.zero_add]; exact h.2 j hj⟩

theorem caps_zero (F : Nat → Nat → Int) (vn : Nat → ByteArray) : caps F vn 0 = fun _ => ⟨#[]⟩ := by
  funext j; simp [caps]
theorem caps_size (F : Nat → Nat → Int) (vn : Nat → ByteArray) (k j : Nat) : (caps F vn k j).size ≤ 6000 := by
  unfold caps
  split
  · exact capT_size F vn j
  · exact Nat.zero_le _
theorem caps_put {F : Nat → Nat → Int} {vn : Nat → ByteArray} {k : Nat} {s : ByteArray} (h : s = capT F vn k) (j : Nat) : (if j = k then s else caps F vn k j) = caps F vn (k + 1) j := by
  unfold caps
  by_cases hj : j = k
  · subst hj
    rw [if_pos rfl, if_pos (Nat.lt_succ_self _), h]
  · rw [if_neg hj]
    by_cases hl : j < k
    · rw [if_pos hl, if_pos (by omega)]
    · rw [if_neg hl, if_neg (by omega)]
theorem caps_skip {F : Nat → Nat → Int} {vn : Nat → ByteArray} {k : Nat} (h : (⟨#[]⟩ : ByteArray) = capT F vn k) (j : Nat) : caps F vn k j = caps F vn (k + 1) j := by
  rw [← caps_put h j]
  by_cases hj : j = k
  · subst hj
    rw [if_pos rfl, caps, if_neg (Nat.lt_irrefl _)]
  · rw [if_neg hj]

set_option maxRecDepth 100000 in
set_option maxHeartbeats 3200000 in
theorem textsOf_any (lo : Nat) (F : Nat → Nat → Int) (Av Ax : Option Addr) (m cv n cx : Nat) (vn : Nat → ByteArray) (vz : Nat → Int) (w : World) (hx : exsOk F m n = true) (hnx : n ≤ 40) (hm : m ≤ 5) (hs : ∀ j, j < m → 1 ≤ (vn j).size ∧ (vn j).size ≤ 8) (hv : VrAt lo w Av m vn vz) (h : ExL lo w Ax n F) :
    Calls Tryz.prog 25 #[.slice Av m cv, .slice Ax n cx] w fun e w' => (∃ G, e = .returned (.slice (some ⟨G, 0, none⟩) n n) ∧ StL 0 w' (some ⟨G, 0, none⟩) n (capT F vn)) ∧ Below w.heap.size w w' := by
  have hmk := mk_txt n (by omega)
  obtain ⟨G, hG⟩ : ∃ G, G = w.heap.size := ⟨_, rfl⟩
  have hX := Box.new w 9 (madeCells #[.string ⟨#[]⟩] n)
  have hB2 := (Below.refl w.heap.size w).alloc (Nat.le_refl _) (.cells (madeCells #[.string ⟨#[]⟩] n) 9)
  obtain ⟨w2, hw2⟩ : ∃ w2, w2 = w.alloc (.cells (madeCells #[.string ⟨#[]⟩] n) 9) := ⟨_, rfl⟩
  rw [← hw2] at hX hB2
  rw [← hG] at hX
  have H := Lib.hid h
  have HV := Lib.hid hv
  have HX := Lib.hid hx
  have HS := Lib.hid hs
  clear h hv hx hs
  go_enter Tryz.func25, Tryz.ntmps25
  go_upto_region 2 with fail
  rw [← hw2, ← hG]
  have HG := Lib.hid hG
  clear hw2 hmk hG
  go_wp2_with fail
  go_loopg [14] n (fun q iv wr => ∃ (k : Nat) (cs' : Array Value), k + q = n ∧ iv = .int .i64 (k : Nat) ∧ Hid (TxtC cs' n (caps F vn k)) ∧ Box wr G 9 cs' ∧ Below w.heap.size w wr)
  case atStart => exact ⟨0, _, by omega, rfl, Lib.hid (by rw [caps_zero]; exact TxtC.made n), hX, hB2⟩
  case round =>
    obtain ⟨k, cs3, hk, rfl, hc, hbx, hbel⟩ := hrel
    by_cases hk0 : k < n
    · obtain ⟨b, off, rfl, hb, r0, r1, r2, r3⟩ := (H.out.below hbel (Nat.le_refl _)).1.at_ hk0
      have hkn : (k : Int) < (n : Int) := by omega
      have hal := (Below.refl wr.heap.size wr).alloc (Nat.le_refl _) (.cells #[.int .i64 (F k 0), .int .i64 (F k 1), .int .i64 (F k 2), .int .i64 (F k 3)] 80)
      have C := Lib.hid (textOf_any lo 0 (F k 0) (F k 1) (F k 2) (F k 3) Av (some ⟨G, 0, none⟩) m cv n n k vn vz (caps F vn k) (wr.alloc (.cells #[.int .i64 (F k 0), .int .i64 (F k 1), .int .i64 (F k 2), .int .i64 (F k 3)] 80)) (exsOk_in HX.out hk0) (by omega) (by omega) (by omega) (caps_size F vn k) ((HV.out.below hbel (Nat.le_refl _)).below hal (Nat.le_refl _)) (hc.out.list (hbx.below hal hbx.lt)))
      have hst := cap_step (g := caps F vn k) HX.out HS.out hk0 (fun j hj => by rw [caps, if_pos hj])
      rw [← progT_eq] at hst
      obtain ⟨s, hs⟩ : ∃ s, s = progT (F k 0) (F k 1) (F k 2) (F k 3) vn (caps F vn k) := ⟨_, rfl⟩
      rw [← hs] at C hst
      clear hs
      by_cases h6 : s.size ≤ 6000
      · rw [if_pos h6] at hst
        have HST := Lib.hid hst
        have hd : decide ((s.size : Int) ≤ 6000) = true := decide_eq_true (by omega)
        clear hst h6
        go_wp2_with (go_at_call 51; refine C.out.mono ?_; rintro e5 w5 ⟨rfl, hb5⟩; have hb6 := hal.trans (hb5.mono hal.size); have hx5 := hbx.below hb6 hbx.lt; have hB5 := hbel.trans (hb6.mono hbel.size); have k0 := hc.out.at_ hx5 hk0; have f0 := hx5.free k)
        go_roundg (gk - 1)
        case rel =>
          exact ⟨k + 1, _, by omega, by go_num, Lib.hid ((hc.out.put hk0 s).congr fun j _ => caps_put HST.out j), hx5.set _ _, hB5.setCell (p := ⟨G, k, none⟩) (by rw [HG.out]; exact Nat.le_refl _) _⟩
        case measure => omega
      · rw [if_neg h6] at hst
        have HST := Lib.hid hst
        have hd : decide ((s.size : Int) ≤ 6000) = false := decide_eq_false (by omega)
        clear hst h6
        go_wp2_with (go_at_call 51; refine C.out.mono ?_; rintro e5 w5 ⟨rfl, hb5⟩; have hb6 := hal.trans (hb5.mono hal.size); have hx5 := hbx.below hb6 hbx.lt; have hB5 := hbel.trans (hb6.mono hbel.size))
        go_roundg (gk - 1)
        case rel =>
          exact ⟨k + 1, _, by omega, by go_num, Lib.hid (hc.out.congr fun j _ => caps_skip HST.out j), hx5, hB5⟩
        case measure => omega
    · obtain rfl : k = n := by omega
      go_wp2_with fail
      go_ret
      exact ⟨⟨G, rfl, (hc.out.congr fun j hj => by rw [caps, if_pos hj]).list hbx⟩, hbel⟩

end Go.Proofs.YtoaiejodbmkbjaaGreatDoor
