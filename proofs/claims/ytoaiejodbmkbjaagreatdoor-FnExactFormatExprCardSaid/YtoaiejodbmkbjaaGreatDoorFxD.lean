/-
  The program's text of one expression.
-/
import Derived.Test.YtoaiejodbmkbjaaGreatDoorFxC
import Derived.Lib.Join
import Derived.Deep.RegionHeld3
namespace Go.Proofs.YtoaiejodbmkbjaaGreatDoor
open Go.RowKit Num

theorem brk2_any (g : Nat) (x y : ByteArray) (W : World) (h : Box W g 9 #[.string x, .string y]) (hx : x.size ≤ 10000) (hy : y.size ≤ 10000) :
    Calls Tryz.prog 74 #[.slice (some ⟨g, 0, none⟩) 2 2] W (BrkPost [x, y] W) :=
  brk_any g [x, y] W (fun j z hz => by
    rw [h.cell]
    match j, hz with
    | 0, e => cases e; rfl
    | 1, e => cases e; rfl) h.lt (by simp) (by
    have e1 : x.data.toList.length = x.size := Array.length_toList
    have e2 : y.data.toList.length = y.size := Array.length_toList
    simp [Lib.join_length, Lib.lens]
    simp only [Array.length_toList] at e1 e2
    omega)
theorem brk3_any (g : Nat) (x y z : ByteArray) (W : World) (h : Box W g 9 #[.string x, .string y, .string z]) (hx : x.size ≤ 10000) (hy : y.size ≤ 10000) (hz : z.size ≤ 10000) :
    Calls Tryz.prog 74 #[.slice (some ⟨g, 0, none⟩) 3 3] W (BrkPost [x, y, z] W) :=
  brk_any g [x, y, z] W (fun j u hu => by
    rw [h.cell]
    match j, hu with
    | 0, e => cases e; rfl
    | 1, e => cases e; rfl
    | 2, e => cases e; rfl) h.lt (by simp) (by
    have e1 : x.data.toList.length = x.size := Array.length_toList
    have e2 : y.data.toList.length = y.size := Array.length_toList
    have e3 : z.data.toList.length = z.size := Array.length_toList
    simp [Lib.join_length, Lib.lens]
    simp only [Array.length_toList] at e1 e2 e3
    omega)

/-- fullB and progB, by the expression's four numbers. -/
def progT (op a b v : Int) (vn g : Nat → ByteArray) : ByteArray := progB (fun _ c => if c = 0 then op else if c = 1 then a else if c = 2 then b else v) vn g 0
theorem progT_eq (F : Nat → Nat → Int) (vn g : Nat → ByteArray) (k : Nat) : progT (F k 0) (F k 1) (F k 2) (F k 3) vn g = progB F vn g k := by
  simp [progT, progB, fullB]
theorem progT_const {a b v : Int} {vn g : Nat → ByteArray} : progT 1 a b v vn g = ⟨(decL v.toNat).toArray⟩ := by simp [progT, progB, fullB]
theorem progT_var {a b v : Int} {vn g : Nat → ByteArray} : progT 2 a b v vn g = vn v.toNat := by simp [progT, progB, fullB]
theorem ba_append (x y : List UInt8) : (⟨x.toArray⟩ : ByteArray) ++ ⟨y.toArray⟩ = ⟨(x ++ y).toArray⟩ := by
  apply ByteArray.ext; simp
theorem ba_list (x : ByteArray) : x = ⟨x.data.toList.toArray⟩ := by apply ByteArray.ext; simp
theorem opW_ne {op : Int} (h : 3 ≤ op ∧ op ≤ 9) : opW op ≠ ⟨#[]⟩ := by
  have h7 : op = 3 ∨ op = 4 ∨ op = 5 ∨ op = 6 ∨ op = 7 ∨ op = 8 ∨ op = 9 := by omega
  rcases h7 with rfl | rfl | rfl | rfl | rfl | rfl | rfl <;> decide
theorem opW_size (op : Int) : (opW op).size ≤ 3 := by
  unfold opW
  repeat' split
  all_goals decide
theorem progT_not {a b v : Int} {vn g : Nat → ByteArray} {s : ByteArray} (h : (⟨#[]⟩ ∈ [(⟨#[110, 111, 116]⟩ : ByteArray), g a.toNat] → s = ⟨#[]⟩) ∧ (⟨#[]⟩ ∉ [(⟨#[110, 111, 116]⟩ : ByteArray), g a.toNat] → s = ((⟨#[40]⟩ : ByteArray) ++ ⟨(Lib.join ([(⟨#[110, 111, 116]⟩ : ByteArray), g a.toNat].map (·.data.toList)) [32]).toArray⟩) ++ ⟨#[41]⟩)) : s = progT 10 a b v vn g := by
  have e : progT 10 a b v vn g = if g a.toNat = ⟨#[]⟩ then ⟨#[]⟩ else ((⟨#[40, 110, 111, 116, 32]⟩ : ByteArray) ++ g a.toNat) ++ ⟨#[41]⟩ := by simp [progT, progB, fullB]
  rw [e]
  by_cases hn : g a.toNat = ⟨#[]⟩
  · rw [if_pos hn]
    exact h.1 (by rw [hn]; simp)
  · rw [if_neg hn, h.2 (by
      simp only [List.mem_cons, List.not_mem_nil, or_false]
      rintro (x | x)
      · exact absurd x (by decide)
      · exact hn x.symm)]
    apply ByteArray.ext
    simp [Lib.join, List.intercalate]
theorem progT_op {op a b v : Int} {vn g : Nat → ByteArray} {s : ByteArray} (ho : 3 ≤ op ∧ op ≤ 9) (h : (⟨#[]⟩ ∈ [g a.toNat, opW op, g b.toNat] → s = ⟨#[]⟩) ∧ (⟨#[]⟩ ∉ [g a.toNat, opW op, g b.toNat] → s = ((⟨#[40]⟩ : ByteArray) ++ ⟨(Lib.join ([g a.toNat, opW op, g b.toNat].map (·.data.toList)) [32]).toArray⟩) ++ ⟨#[41]⟩)) : s = progT op a b v vn g := by
  have h1 : op ≠ 1 := by omega
  have h2 : op ≠ 2 := by omega
  have h10 : op ≠ 10 := by omega
  have e : progT op a b v vn g = if g a.toNat = ⟨#[]⟩ ∨ g b.toNat = ⟨#[]⟩ then ⟨#[]⟩ else ((((((⟨#[40]⟩ : ByteArray) ++ g a.toNat) ++ ⟨#[32]⟩) ++ opW op) ++ ⟨#[32]⟩) ++ g b.toNat) ++ ⟨#[41]⟩ := by simp [progT, progB, fullB, h1, h2, h10]
  rw [e]
  by_cases hn : g a.toNat = ⟨#[]⟩ ∨ g b.toNat = ⟨#[]⟩
  · rw [if_pos hn]
    refine h.1 ?_
    rcases hn with hn | hn <;> (rw [hn]; simp)
  · rw [if_neg hn, h.2 (by
      simp only [List.mem_cons, List.not_mem_nil, or_false]
      rintro (x | x | x)
      · exact hn (.inl x.symm)
      · exact opW_ne ho x.symm
      · exact hn (.inr x.symm))]
    apply ByteArray.ext
    simp [Lib.join, List.intercalate]

theorem held5p {p0 p1 p2 p3 p4 p5 : Prop} (h : p0 ∧ p1 ∧ p2 ∧ p3 ∧ p4 ∧ p5) : p5 := h.2.2.2.2.2

set_option maxRecDepth 100000 in
set_option maxHeartbeats 3200000 in
theorem textOf_any (lo lo' : Nat) (op a b v : Int) (Av At : Option Addr) (m cv nt ct k : Nat) (vn : Nat → ByteArray) (vz : Nat → Int) (g : Nat → ByteArray) (w : World) (ho : exOk op a b v k m = true) (hk : k ≤ nt) (_hnt : nt ≤ 1000) (_hm : m ≤ 1000)
    (hg : ∀ j, (g j).size ≤ 6000) (hv : VrAt lo w Av m vn vz) (ht : StL lo' w At nt g) :
    Calls Tryz.prog 51 #[.slice Av m cv, .agg #[.int .i64 op, .int .i64 a, .int .i64 b, .int .i64 v], .slice At nt ct] w fun e w' => e = .returned (.string (progT op a b v vn g)) ∧ Below w.heap.size w w' := by
  have hbox := Box.new w 80 #[.int .i64 op, .int .i64 a, .int .i64 b, .int .i64 v]
  have hB := (Below.refl w.heap.size w).alloc (Nat.le_refl _) (.cells #[.int .i64 op, .int .i64 a, .int .i64 b, .int .i64 v] 80)
  replace hv := hv.below hB (Nat.le_refl _)
  replace ht := ht.below hB (Nat.le_refl _)
  have q0 := hbox.cell 0
  have q1 := hbox.cell 1
  have q2 := hbox.cell 2
  have q3 := hbox.cell 3
  have CI : Hid (∀ v W, _ → _ → _) := Lib.hid fun v W h0 h1 => itoa_any v W h0 h1
  have CO : Hid (∀ W, _) := Lib.hid fun W => opWords_any W
  have C2 : Hid (∀ g x y W, _ → _ → _ → _) := Lib.hid fun g x y W h1 h2 h3 => brk2_any g x y W h1 h2 h3
  have C3 : Hid (∀ g x y z W, _ → _ → _ → _ → _) := Lib.hid fun g x y z W h1 h2 h3 h4 => brk3_any g x y z W h1 h2 h3 h4
  by_cases o1 : op = 1
  · subst o1
    simp only [exOk, if_true, decide_eq_true_eq] at ho
    have hv0 : 0 ≤ v := by omega
    have hv1 : v ≤ 20 := by omega
    clear ho hg hv ht
    go_enter Tryz.func51, Tryz.ntmps51
    go_wp2_with (go_at_call 73; refine (CI.out _ _ hv0 hv1).mono ?_; rintro e w' ⟨rfl, rfl⟩)
    go_ret
    exact ⟨by rw [progT_const]; rfl, hB⟩
  · by_cases o2 : op = 2
    · subst o2
      simp only [exOk, if_neg o1, if_true, decide_eq_true_eq] at ho
      obtain ⟨rfl, rfl, hv0, hv1⟩ := ho
      obtain ⟨j, rfl⟩ : ∃ j : Nat, v = (j : Int) := ⟨v.toNat, by omega⟩
      obtain ⟨bw, off, rfl, hb, s0, s1⟩ := hv.at_ (show j < m by omega)
      have hm : j < m := by omega
      clear hg hv ht o1
      go_enter Tryz.func51, Tryz.ntmps51
      go_wp2_with fail
      go_ret
      exact ⟨by rw [progT_var]; rfl, hB⟩
    · by_cases o10 : op = 10
      · subst o10
        simp only [exOk, if_neg o1, if_neg o2, if_true, decide_eq_true_eq] at ho
        obtain ⟨⟨ha0, ha1⟩, rfl, rfl⟩ := ho
        obtain ⟨i, rfl⟩ : ∃ i : Nat, a = (i : Int) := ⟨a.toNat, by omega⟩
        obtain ⟨bw, off, rfl, hb, s0⟩ := ht.at_ (show i < nt by omega)
        have hm : i < nt := by omega
        have hgi := hg i
        have hbx : Box ((w.alloc (.cells #[.int .i64 10, .int .i64 (i : Nat), .int .i64 0, .int .i64 0] 80)).alloc (.cells #[.string ⟨#[110, 111, 116]⟩, .string (g i)] 9)) (w.heap.size + 1) 9 #[.string ⟨#[110, 111, 116]⟩, .string (g i)] := by
          have h := Box.new (w.alloc (.cells #[.int .i64 10, .int .i64 (i : Nat), .int .i64 0, .int .i64 0] 80)) 9 #[.string ⟨#[110, 111, 116]⟩, .string (g i)]
          have e : (w.alloc (.cells #[.int .i64 10, .int .i64 (i : Nat), .int .i64 0, .int .i64 0] 80)).heap.size = w.heap.size + 1 := by simp
          rw [e] at h
          exact h
        have D2 := Lib.hid (C2.out _ _ _ _ hbx (by decide) (Nat.le_trans hgi (by omega)))
        clear hbx
        clear hg hv ht o1 o2 C2 C3 CO CI
        go_enter Tryz.func51, Tryz.ntmps51
        go_wp2_with (go_at_call 74; refine D2.out.mono ?_; rintro e w1 ⟨s, rfl, hs, hb1⟩)
        go_ret
        exact ⟨by rw [progT_not (a := (i : Int)) (b := 0) (v := 0) hs.out]; rfl, (hB.alloc hB.size _).trans (hb1.mono (hB.alloc hB.size _).size)⟩
      · simp only [exOk, if_neg o1, if_neg o2, if_neg o10, decide_eq_true_eq] at ho
        obtain ⟨hop, ⟨ha0, ha1⟩, ⟨hb0, hb1⟩, rfl⟩ := ho
        obtain ⟨i, rfl⟩ : ∃ i : Nat, a = (i : Int) := ⟨a.toNat, by omega⟩
        obtain ⟨j, rfl⟩ : ∃ j : Nat, b = (j : Int) := ⟨b.toNat, by omega⟩
        obtain ⟨o, rfl⟩ : ∃ o : Nat, op = (o : Int) := ⟨op.toNat, by omega⟩
        obtain ⟨bw, off, rfl, hb, s0⟩ := ht.at_ (show i < nt by omega)
        obtain ⟨bw', off', he', hb', s1⟩ := ht.at_ (show j < nt by omega)
        cases he'
        have hi : i < nt := by omega
        have hj : j < nt := by omega
        have hgi := hg i
        have hgj := hg j
        have hoo : 3 ≤ (o : Int) ∧ (o : Int) ≤ 9 := by omega
        have ho10 : o < 10 := by omega
        have hsz := opW_size (o : Int)
        have ho11 : ¬ 10 ≤ (o : Int) := by omega
        have e1 : ((o : Int) == 1) = false := by simp; omega
        have e2 : ((o : Int) == 2) = false := by simp; omega
        have e3 : ((o : Int) == 10) = false := by simp; omega
        have D3 : Hid (∀ (G : Nat) (W : World), Box W G 9 #[.string (g i), .string (opW (o : Int)), .string (g j)] → Calls Tryz.prog 74 #[.slice (some ⟨G, 0, none⟩) 3 3] W (BrkPost [g i, opW (o : Int), g j] W)) := Lib.hid fun G W h => C3.out G (g i) (opW (o : Int)) (g j) W h (Nat.le_trans hgi (by omega)) (by omega) (Nat.le_trans hgj (by omega))
        have hlt := hbox.lt
        have HO : o < 10 := ho10
        have NI : (i : Int).toNat = i := rfl
        clear hg hv ht hop C2 C3 CI
        go_enter Tryz.func51, Tryz.ntmps51
        go_upto_region 8 with fail
        refine wp_region_held_drew (S := (fun w' => w'.cell? ⟨w.heap.size, 0, none⟩ = some (.int .i64 (o : Nat)) ∧ w'.cell? ⟨w.heap.size, 1, none⟩ = some (.int .i64 (i : Nat)) ∧ w'.cell? ⟨w.heap.size, 2, none⟩ = some (.int .i64 (j : Nat)) ∧ w'.cell? ⟨bw, off + i, none⟩ = some (.string (g i)) ∧ w'.cell? ⟨bw, off + j, none⟩ = some (.string (g j)) ∧ Below (w.alloc (.cells #[.int .i64 (o : Nat), .int .i64 (i : Nat), .int .i64 (j : Nat), .int .i64 0] 80)).heap.size (w.alloc (.cells #[.int .i64 (o : Nat), .int .i64 (i : Nat), .int .i64 (j : Nat), .int .i64 0] 80)) w')) (by kernel_rfl) ?_ (fun hHeld => ?_)
        · (try dsimp only); (suffices hBB : Below (w.alloc (.cells #[.int .i64 (o : Nat), .int .i64 (i : Nat), .int .i64 (j : Nat), .int .i64 0] 80)).heap.size (w.alloc (.cells #[.int .i64 (o : Nat), .int .i64 (i : Nat), .int .i64 (j : Nat), .int .i64 0] 80)) _ from ⟨(hBB.cell hlt).trans q0, (hBB.cell hlt).trans q1, (hBB.cell hlt).trans q2, (hBB.cell hb).trans s0, (hBB.cell hb).trans s1, hBB⟩; first | exact Below.drew (Below.refl _ _) | exact held5p (by assumption) | (refine stepB (held5p (by assumption)) ?_; assumption) | exact Below.alloc (held5p (by assumption)) (Below.size (held5p (by assumption))) _)
        refine wpAnyH_take (i := 0) (v := .slice (some ⟨bw, off, none⟩) nt ct) rfl (by kernel_rfl) (by kernel_rfl) (by kernel_rfl) (fun _ _ _ h => h) (Or.inl ⟨by rfl, ?_⟩) (by assumption) ?_
        · intro w' hSw; (try dsimp only at hSw); go_simp
        (try simp only [Act.put, List.getElem_toArray, List.getElem_cons_zero, List.setIfInBounds_toArray, List.set_cons_zero, List.set_cons_succ])
        refine wpAnyH_take (i := 1) (v := .pointer (some ⟨w.heap.size, 1, none⟩)) rfl (by kernel_rfl) (by kernel_rfl) (by kernel_rfl) (fun _ _ _ h => h) (Or.inl ⟨by rfl, ?_⟩) (by assumption) ?_
        · intro w' hSw; (try dsimp only at hSw); go_simp
        (try simp only [Act.put, List.getElem_toArray, List.getElem_cons_zero, List.getElem_cons_succ, List.setIfInBounds_toArray, List.set_cons_zero, List.set_cons_succ])
        refine wpAnyH_take (i := 2) (v := .int .i64 (i : Nat)) rfl (by kernel_rfl) (by kernel_rfl) (by kernel_rfl) (fun _ _ _ h => h) (Or.inl ⟨by rfl, ?_⟩) (by assumption) ?_
        · intro w' hSw; (try dsimp only at hSw); go_simp
        (try simp only [Act.put, List.getElem_toArray, List.getElem_cons_zero, List.getElem_cons_succ, List.setIfInBounds_toArray, List.set_cons_zero, List.set_cons_succ])
        refine wpAnyH_take (i := 3) (v := .pointer (some ⟨bw, off + i, none⟩)) rfl (by kernel_rfl) (by kernel_rfl) (by kernel_rfl) (fun _ _ _ h => h) (Or.inl ⟨by rfl, ?_⟩) (by assumption) ?_
        · intro w' hSw; (try dsimp only at hSw); go_simp
        (try simp only [Act.put, List.getElem_toArray, List.getElem_cons_zero, List.getElem_cons_succ, List.setIfInBounds_toArray, List.set_cons_zero, List.set_cons_succ])
        refine wpAnyH_take (i := 4) (v := .string (g i)) rfl (by kernel_rfl) (by kernel_rfl) (by kernel_rfl) (fun _ _ _ h => h) (Or.inl ⟨by rfl, ?_⟩) (by assumption) ?_
        · intro w' hSw; (try dsimp only at hSw); go_simp
        (try simp only [Act.put, List.getElem_toArray, List.getElem_cons_zero, List.getElem_cons_succ, List.setIfInBounds_toArray, List.set_cons_zero, List.set_cons_succ])
        refine wpAnyH_take (i := 6) (v := .pointer (some ⟨w.heap.size, 0, none⟩)) rfl (by kernel_rfl) (by kernel_rfl) (by kernel_rfl) (fun _ _ _ h => h) (Or.inl ⟨by rfl, ?_⟩) (by assumption) ?_
        · intro w' hSw; (try dsimp only at hSw); go_simp
        (try simp only [Act.put, List.getElem_toArray, List.getElem_cons_zero, List.getElem_cons_succ, List.setIfInBounds_toArray, List.set_cons_zero, List.set_cons_succ])
        refine wpAnyH_take (i := 7) (v := .int .i64 (o : Nat)) rfl (by kernel_rfl) (by kernel_rfl) (by kernel_rfl) (fun _ _ _ h => h) (Or.inl ⟨by rfl, ?_⟩) (by assumption) ?_
        · intro w' hSw; (try dsimp only at hSw); go_simp
        (try simp only [Act.put, List.getElem_toArray, List.getElem_cons_zero, List.getElem_cons_succ, List.setIfInBounds_toArray, List.set_cons_zero, List.set_cons_succ])
        refine wpAnyH_take (i := 10) (v := .slice (some ⟨bw, off, none⟩) nt ct) rfl (by kernel_rfl) (by kernel_rfl) (by kernel_rfl) (fun _ _ _ h => h) (Or.inl ⟨by rfl, ?_⟩) (by assumption) ?_
        · intro w' hSw; (try dsimp only at hSw); go_simp
        (try simp only [Act.put, List.getElem_toArray, List.getElem_cons_zero, List.getElem_cons_succ, List.setIfInBounds_toArray, List.set_cons_zero, List.set_cons_succ])
        refine wpAnyH_take (i := 11) (v := .pointer (some ⟨w.heap.size, 2, none⟩)) rfl (by kernel_rfl) (by kernel_rfl) (by kernel_rfl) (fun _ _ _ h => h) (Or.inl ⟨by rfl, ?_⟩) (by assumption) ?_
        · intro w' hSw; (try dsimp only at hSw); go_simp
        (try simp only [Act.put, List.getElem_toArray, List.getElem_cons_zero, List.getElem_cons_succ, List.setIfInBounds_toArray, List.set_cons_zero, List.set_cons_succ])
        refine wpAnyH_take (i := 12) (v := .int .i64 (j : Nat)) rfl (by kernel_rfl) (by kernel_rfl) (by kernel_rfl) (fun _ _ _ h => h) (Or.inl ⟨by rfl, ?_⟩) (by assumption) ?_
        · intro w' hSw; (try dsimp only at hSw); go_simp
        (try simp only [Act.put, List.getElem_toArray, List.getElem_cons_zero, List.getElem_cons_succ, List.setIfInBounds_toArray, List.set_cons_zero, List.set_cons_succ])
        refine wpAnyH_take (i := 13) (v := .pointer (some ⟨bw, off + j, none⟩)) rfl (by kernel_rfl) (by kernel_rfl) (by kernel_rfl) (fun _ _ _ h => h) (Or.inl ⟨by rfl, ?_⟩) (by assumption) ?_
        · intro w' hSw; (try dsimp only at hSw); go_simp
        (try simp only [Act.put, List.getElem_toArray, List.getElem_cons_zero, List.getElem_cons_succ, List.setIfInBounds_toArray, List.set_cons_zero, List.set_cons_succ])
        refine wpAnyH_take (i := 14) (v := .string (g j)) rfl (by kernel_rfl) (by kernel_rfl) (by kernel_rfl) (fun _ _ _ h => h) (Or.inl ⟨by rfl, ?_⟩) (by assumption) ?_
        · intro w' hSw; (try dsimp only at hSw); go_simp
        (try simp only [Act.put, List.getElem_toArray, List.getElem_cons_zero, List.getElem_cons_succ, List.setIfInBounds_toArray, List.set_cons_zero, List.set_cons_succ])
        refine wpAnyH_ready (rs := [5]) (by kernel_rfl) (by simp) ?_
        refine AllReadyH.cons rfl (fun K hK => ?_) AllReadyH.nil
        go_simp
        go_wp2_with (go_at_call 75; refine (CO.out _).mono ?_; rintro e w1 ⟨⟨A0, rfl, hs⟩, hb1⟩; obtain ⟨gb, off2, rfl, hgb, so⟩ := hs.at_ ho10)
        refine hK.out _ _ ?_ (fun hHeld => ?_)
        · (try dsimp only); (suffices hBB : Below (w.alloc (.cells #[.int .i64 (o : Nat), .int .i64 (i : Nat), .int .i64 (j : Nat), .int .i64 0] 80)).heap.size (w.alloc (.cells #[.int .i64 (o : Nat), .int .i64 (i : Nat), .int .i64 (j : Nat), .int .i64 0] 80)) _ from ⟨(hBB.cell hlt).trans q0, (hBB.cell hlt).trans q1, (hBB.cell hlt).trans q2, (hBB.cell hb).trans s0, (hBB.cell hb).trans s1, hBB⟩; first | exact Below.drew (Below.refl _ _) | exact held5p (by assumption) | (refine stepB (held5p (by assumption)) ?_; assumption) | exact Below.alloc (held5p (by assumption)) (Below.size (held5p (by assumption))) _)
        clear hK K
        (try simp only [Act.put, List.getElem_toArray, List.getElem_cons_zero, List.getElem_cons_succ, List.setIfInBounds_toArray, List.set_cons_zero, List.set_cons_succ])
        refine wpAnyH_take (i := 8) (v := .pointer (some ⟨gb, off2 + o, none⟩)) rfl (by kernel_rfl) (by kernel_rfl) (by kernel_rfl) (fun _ _ _ h => h) (Or.inl ⟨by rfl, ?_⟩) (by assumption) ?_
        · intro w' hSw; (try dsimp only at hSw); go_simp
        (try simp only [Act.put, List.getElem_toArray, List.getElem_cons_zero, List.getElem_cons_succ, List.setIfInBounds_toArray, List.set_cons_zero, List.set_cons_succ])
        refine wpAnyH_ready (rs := [9]) (by kernel_rfl) (by simp) ?_
        refine AllReadyH.cons rfl (fun K hK => ?_) AllReadyH.nil
        go_simp
        (try go_wp2_with fail)
        refine hK.out _ _ ?_ (fun hHeld => ?_)
        · (try dsimp only); (suffices hBB : Below (w.alloc (.cells #[.int .i64 (o : Nat), .int .i64 (i : Nat), .int .i64 (j : Nat), .int .i64 0] 80)).heap.size (w.alloc (.cells #[.int .i64 (o : Nat), .int .i64 (i : Nat), .int .i64 (j : Nat), .int .i64 0] 80)) _ from ⟨(hBB.cell hlt).trans q0, (hBB.cell hlt).trans q1, (hBB.cell hlt).trans q2, (hBB.cell hb).trans s0, (hBB.cell hb).trans s1, hBB⟩; first | exact Below.drew (Below.refl _ _) | exact held5p (by assumption) | (refine stepB (held5p (by assumption)) ?_; assumption) | exact Below.alloc (held5p (by assumption)) (Below.size (held5p (by assumption))) _)
        clear hK K
        (try simp only [Act.put, List.getElem_toArray, List.getElem_cons_zero, List.getElem_cons_succ, List.setIfInBounds_toArray, List.set_cons_zero, List.set_cons_succ])
        refine wpAnyH_ready (rs := [15]) (by kernel_rfl) (by simp) ?_
        refine AllReadyH.cons rfl (fun K hK => ?_) AllReadyH.nil
        go_simp
        (try go_wp2_with fail)
        refine hK.out _ _ ?_ (fun hHeld => ?_)
        · (try dsimp only); (suffices hBB : Below (w.alloc (.cells #[.int .i64 (o : Nat), .int .i64 (i : Nat), .int .i64 (j : Nat), .int .i64 0] 80)).heap.size (w.alloc (.cells #[.int .i64 (o : Nat), .int .i64 (i : Nat), .int .i64 (j : Nat), .int .i64 0] 80)) _ from ⟨(hBB.cell hlt).trans q0, (hBB.cell hlt).trans q1, (hBB.cell hlt).trans q2, (hBB.cell hb).trans s0, (hBB.cell hb).trans s1, hBB⟩; first | exact Below.drew (Below.refl _ _) | exact held5p (by assumption) | (refine stepB (held5p (by assumption)) ?_; assumption) | exact Below.alloc (held5p (by assumption)) (Below.size (held5p (by assumption))) _)
        clear hK K
        (try simp only [Act.put, List.getElem_toArray, List.getElem_cons_zero, List.getElem_cons_succ, List.setIfInBounds_toArray, List.set_cons_zero, List.set_cons_succ])
        refine wpAnyH_ready (rs := [16]) (by kernel_rfl) (by simp) ?_
        refine AllReadyH.cons rfl (fun K hK => ?_) AllReadyH.nil
        go_simp
        go_wp2_with (go_at_call 74; refine (D3.out _ _ (by exact Box.new _ _ _)).mono ?_; rintro e w2 ⟨s, rfl, hs2, hb2⟩)
        refine hK.out _ _ ?_ (fun hHeld => ?_)
        · (try dsimp only); (suffices hBB : Below (w.alloc (.cells #[.int .i64 (o : Nat), .int .i64 (i : Nat), .int .i64 (j : Nat), .int .i64 0] 80)).heap.size (w.alloc (.cells #[.int .i64 (o : Nat), .int .i64 (i : Nat), .int .i64 (j : Nat), .int .i64 0] 80)) _ from ⟨(hBB.cell hlt).trans q0, (hBB.cell hlt).trans q1, (hBB.cell hlt).trans q2, (hBB.cell hb).trans s0, (hBB.cell hb).trans s1, hBB⟩; first | exact Below.drew (Below.refl _ _) | exact held5p (by assumption) | (refine stepB (held5p (by assumption)) ?_; assumption) | exact Below.alloc (held5p (by assumption)) (Below.size (held5p (by assumption))) _)
        clear hK K
        (try simp only [Act.put, List.getElem_toArray, List.getElem_cons_zero, List.getElem_cons_succ, List.setIfInBounds_toArray, List.set_cons_zero, List.set_cons_succ])
        refine wpAnyH_ready (rs := [17]) (by kernel_rfl) (by simp) ?_
        refine AllReadyH.cons rfl (fun K hK => ?_) AllReadyH.nil
        go_simp
        (try go_wp2_with fail)
        refine hK.out _ _ ?_ (fun hHeld => ?_)
        · (try dsimp only); (suffices hBB : Below (w.alloc (.cells #[.int .i64 (o : Nat), .int .i64 (i : Nat), .int .i64 (j : Nat), .int .i64 0] 80)).heap.size (w.alloc (.cells #[.int .i64 (o : Nat), .int .i64 (i : Nat), .int .i64 (j : Nat), .int .i64 0] 80)) _ from ⟨(hBB.cell hlt).trans q0, (hBB.cell hlt).trans q1, (hBB.cell hlt).trans q2, (hBB.cell hb).trans s0, (hBB.cell hb).trans s1, hBB⟩; first | exact Below.drew (Below.refl _ _) | exact held5p (by assumption) | (refine stepB (held5p (by assumption)) ?_; assumption) | exact Below.alloc (held5p (by assumption)) (Below.size (held5p (by assumption))) _)
        clear hK K
        (try simp only [Act.put, List.getElem_toArray, List.getElem_cons_zero, List.getElem_cons_succ, List.setIfInBounds_toArray, List.set_cons_zero, List.set_cons_succ])
        refine wpAnyH_done (by kernel_rfl) ?_ _
        go_wp2_with fail
        go_ret
        exact ⟨by rw [← progT_op hoo hs2.out]; rfl, hB.trans (Below.mono (held5p (by assumption)) hB.size)⟩

end Go.Proofs.YtoaiejodbmkbjaaGreatDoor
