/-
  Programs as arguments: what the reading of a program gives the walk.
-/
import Derived.Test.YtoaiejodbmkbjaaGreatDoorPgSz
import Derived.Deep.Slices
import Derived.WideKeyArgs
import Derived.ProofKit
import Derived.OpenShut
import Derived.ChangeMaps5
import Derived.Deep.DeepHandedRow
namespace Go.Proofs.YtoaiejodbmkbjaaGreatDoor
open Go.ChangeShapes Go.WideShapes Go.ChangeAt Go.RowKit Go.ChangeMaps Num

theorem at_drop1 {cs : List Value} {k m : Nat} {v : Value} (hm : m = 1) (h : (cs.drop k).take m = [v]) : cs[k]? = some v := by
  subst hm
  have h1 := congrArg (fun l : List Value => l[0]?) h
  simpa [List.getElem?_take, List.getElem?_drop] using h1

theorem cell_lt1 {W : World} {p : Addr} {v : Value} (h : W.cell? p = some v) : p.block < W.heap.size := by
  unfold World.cell? at h
  rcases Nat.lt_or_ge p.block W.heap.size with h' | h'
  · exact h'
  · rw [Array.getElem?_eq_none h'] at h; cases h

/-- Any cell of a list, as a function. -/
def celF (cs : List Value) (c : Nat) : Value := cs.getD c undef
theorem celF_eq {cs : List Value} {c : Nat} {v : Value} (h : cs[c]? = some v) : celF cs c = v := by simp [celF, List.getD, h]
theorem celF_at {cs : List Value} {K c : Nat} (hl : cs.length = K) (hc : c < K) : cs[c]? = some (celF cs c) := by
  subst hl
  simp [celF, List.getD, List.getElem?_eq_getElem hc]

set_option maxRecDepth 100000 in
theorem list_of {H : Type} {enc : TypeId × Value → H} {W : World} {α : Type} [Inhabited α] {t e : TypeId} {K fuel : Nat} {cs : List Value} {x : DataW H × List MemPlace} (hK0 : 0 < K) (ht : Tryz.prog.underlying t = some (.slice e)) (hc : Tryz.prog.cellsOf e = K) (Q : α → (Nat → Value) → Prop)
    (hel : ∀ (n : Nat) (cs' : List Value) (y : DataW H × List MemPlace), DataW.trod enc Tryz.prog W 0 (fun _ => true) true n e cs' = some y → ∃ z C, Q z C ∧ ∀ c, c < K → cs'[c]? = some (C c))
    (h : DataW.trod enc Tryz.prog W 0 (fun _ => true) true fuel t cs = some x) :
    ∃ A0 n cap, ∃ z : Nat → α, cs = [.slice A0 n cap] ∧ n ≤ maxLen ∧ (0 < n → ∃ b off, A0 = some ⟨b, off, none⟩ ∧ Stand 0 W b ∧ ∀ j, j < n → ∃ C : Nat → Value, Q (z j) C ∧ ∀ c, c < K → W.cell? ⟨b, off + (j * K + c), none⟩ = some (C c)) ∧ ∀ j, j < n → ∃ C, Q (z j) C := by
  rcases Deep.open_slice ht h with ⟨hcs, _⟩ | ⟨a, len, cap', m, k, D, Pl, hcs, _, hl, hm, hmm, hx, hread⟩
  · exact ⟨none, 0, 0, fun _ => default, hcs, Nat.zero_le maxLen, fun h0 => absurd h0 (Nat.lt_irrefl 0), fun j hj => absurd hj (Nat.not_lt_zero j)⟩
  · rw [if_pos rfl] at hmm
    subst hmm
    rw [hc] at hread hx
    obtain ⟨F, hF⟩ := Deep.choose_lt (α := α) (n := len) (p := fun i z => ∃ C : Nat → Value, Q z C ∧ ∀ c, c < K → W.cell? ((a.add (i * K)).add c) = some (C c)) (fun i hi => by
      obtain ⟨cs', h1, h2⟩ := hread i (by omega)
      obtain ⟨_, _, h3⟩ := World.cells?_some h1
      obtain ⟨z, C, hz, hC⟩ := hel _ _ _ h2
      exact ⟨z, C, hz, fun c hc' => by rw [h3 c hc']; exact hC c hc'⟩)
    refine ⟨some a, len, _, F, hcs, by omega, fun h0 => ?_, fun j hj => ⟨_, (hF j hj).choose_spec.1⟩⟩
    obtain ⟨C0, _, hC0⟩ := hF 0 h0
    have h00 := hC0 0 hK0
    have hsp : a.spot = none := by
      rw [Nat.zero_mul, Deep.add_add, Nat.add_zero] at h00
      unfold Addr.add World.cell? at h00
      simp only [if_true] at h00
      split at h00
      · split at h00
        · cases h00
        · rename_i hs
          cases hsp : a.spot with
          | none => rfl
          | some q => rw [hsp] at hs; exact absurd rfl hs
      · cases h00
    refine ⟨a.block, a.off, ?_, .zero ?_, fun j hj => ?_⟩
    · cases a; simp only at hsp; subst hsp; rfl
    · rw [Deep.add_add] at h00
      have := cell_lt1 h00
      unfold Addr.add at this
      split at this <;> exact this
    · obtain ⟨C, hC, hcc⟩ := hF j hj
      refine ⟨C, hC, fun c hc' => ?_⟩
      have h01 := hcc c hc'
      rw [Deep.add_add] at h01
      rw [← h01]
      unfold Addr.add
      split
      · rename_i hz
        cases a; simp only at hsp; subst hsp; rw [hz]; rfl
      · rfl

section
variable {H : Type} {enc : TypeId × Value → H} {W : World} {fuel : Nat} {cs : List Value} {x : DataW H × List MemPlace}

/-- A list of ints. -/
theorem ints_of (h : DataW.trod enc Tryz.prog W 0 (fun _ => true) true fuel 26 cs = some x) : ∃ A0 n cap f, cs = [.slice A0 n cap] ∧ n ≤ maxLen ∧ IntsAt 0 W A0 n f := by
  obtain ⟨A0, n, cap, z, e, hn, hA, _⟩ := list_of (α := Int) (K := 1) (by omega) Tryz.underlying26 (by kernel_rfl) (fun z C => C 0 = .int .i64 z) (fun n cs' y hy => by
    obtain ⟨z, rfl, _, _⟩ := DataW.trod_int Tryz.underlying3 hy
    exact ⟨z, fun _ => .int .i64 z, rfl, fun c hc => by obtain rfl : c = 0 := by omega
                                                        rfl⟩) h
  refine ⟨A0, n, cap, z, e, hn, fun h0 => ?_⟩
  obtain ⟨b, off, rfl, hb, hr⟩ := hA h0
  refine ⟨b, off, rfl, hb, fun j hj => ?_⟩
  obtain ⟨C, hC, hc⟩ := hr j hj
  have := hc 0 (by omega)
  rw [hC, Nat.mul_one, Nat.add_zero] at this
  exact this

theorem chs_of (h : DataW.trod enc Tryz.prog W 0 (fun _ => true) true fuel 68 cs = some x) : ∃ A0 n cap ch, cs = [.slice A0 n cap] ∧ n ≤ maxLen ∧ ChAt 0 W A0 n ch := by
  have hi : Tryz.prog.cellsOf 3 = 1 := by kernel_rfl
  obtain ⟨A0, n, cap, z, e, hn, hA, _⟩ := list_of (α := Int × Int) (K := 2) (by omega) Tryz.underlying68 (by kernel_rfl) (fun z C => C 0 = .int .i64 z.1 ∧ C 1 = .int .i64 z.2) (fun n cs' y hy => by
    obtain ⟨xs, n, _, rfl, hl, hlen, hf⟩ := DataW.trod_struct Tryz.underlying121 hy
    have h2 : xs.length = 2 := hlen
    have h0 := hf 0 _ rfl
    have h1 := hf 1 _ rfl
    rw [List.getElem?_eq_getElem (by omega)] at h0 h1
    obtain ⟨z0, e0, _, _⟩ := DataW.trod_int Tryz.underlying3 h0
    obtain ⟨z1, e1, _, _⟩ := DataW.trod_int Tryz.underlying3 h1
    exact ⟨(z0, z1), celF cs', ⟨celF_eq (at_drop1 hi e0), celF_eq (at_drop1 hi e1)⟩, fun c hc => celF_at (by rw [hl]; kernel_rfl) hc⟩) h
  exact ⟨A0, n, cap, z, e, hn, hA⟩

theorem vars_of (h : DataW.trod enc Tryz.prog W 0 (fun _ => true) true fuel 22 cs = some x) : ∃ A0 n cap vn vz, cs = [.slice A0 n cap] ∧ n ≤ maxLen ∧ VrAt 0 W A0 n vn vz ∧ ∀ j, j < n → (vn j).size ≤ maxLen := by
  have hi : Tryz.prog.cellsOf 3 = 1 := by kernel_rfl
  have hs : Tryz.prog.cellsOf 9 = 1 := by kernel_rfl
  obtain ⟨A0, n, cap, z, e, hn, hA, hq⟩ := list_of (α := ByteArray × Int) (K := 2) (by omega) Tryz.underlying22 (by kernel_rfl) (fun z C => (C 0 = .string z.1 ∧ C 1 = .int .i64 z.2) ∧ z.1.size ≤ maxLen) (fun n cs' y hy => by
    obtain ⟨xs, n, _, rfl, hl, hlen, hf⟩ := DataW.trod_struct Tryz.underlying66 hy
    have h2 : xs.length = 2 := hlen
    have h0 := hf 0 _ rfl
    have h1 := hf 1 _ rfl
    rw [List.getElem?_eq_getElem (by omega)] at h0 h1
    obtain ⟨z0, e0, _, w0⟩ := DataW.trod_string Tryz.underlying9 h0
    obtain ⟨z1, e1, _, _⟩ := DataW.trod_int Tryz.underlying3 h1
    exact ⟨(z0, z1), celF cs', ⟨⟨celF_eq (at_drop1 hs e0), celF_eq (at_drop1 hi e1)⟩, w0⟩, fun c hc => celF_at (by rw [hl]; kernel_rfl) hc⟩) h
  exact ⟨A0, n, cap, fun j => (z j).1, fun j => (z j).2, e, hn, Arr.low (R := fun _ j C => (C 0 = .string (z j).1 ∧ C 1 = .int .i64 (z j).2) ∧ (z j).1.size ≤ maxLen) (fun _ _ h => h.1) hA (Nat.le_refl _), fun j hj => (hq j hj).choose_spec.2⟩

theorem exs_of (h : DataW.trod enc Tryz.prog W 0 (fun _ => true) true fuel 23 cs = some x) : ∃ A0 n cap F, cs = [.slice A0 n cap] ∧ n ≤ maxLen ∧ ExL 0 W A0 n F := by
  have hi : Tryz.prog.cellsOf 3 = 1 := by kernel_rfl
  obtain ⟨A0, n, cap, z, e, hn, hA, _⟩ := list_of (α := Nat → Int) (K := 4) (by omega) Tryz.underlying23 (by kernel_rfl) (fun z C => ∀ c, c < 4 → C c = .int .i64 (z c)) (fun n cs' y hy => by
    obtain ⟨xs, n, _, rfl, hl, hlen, hf⟩ := DataW.trod_struct Tryz.underlying87 hy
    have h4 : xs.length = 4 := hlen
    have h0 := hf 0 _ rfl
    have h1 := hf 1 _ rfl
    have h2 := hf 2 _ rfl
    have h3 := hf 3 _ rfl
    rw [List.getElem?_eq_getElem (by omega)] at h0 h1 h2 h3
    obtain ⟨z0, e0, _, _⟩ := DataW.trod_int Tryz.underlying3 h0
    obtain ⟨z1, e1, _, _⟩ := DataW.trod_int Tryz.underlying3 h1
    obtain ⟨z2, e2, _, _⟩ := DataW.trod_int Tryz.underlying3 h2
    obtain ⟨z3, e3, _, _⟩ := DataW.trod_int Tryz.underlying3 h3
    refine ⟨fun c => match c with | 0 => z0 | 1 => z1 | 2 => z2 | _ => z3, celF cs', fun c hc => ?_, fun c hc => celF_at (by rw [hl]; kernel_rfl) hc⟩
    match c, hc with
    | 0, _ => exact celF_eq (at_drop1 hi e0)
    | 1, _ => exact celF_eq (at_drop1 hi e1)
    | 2, _ => exact celF_eq (at_drop1 hi e2)
    | 3, _ => exact celF_eq (at_drop1 hi e3)) h
  refine ⟨A0, n, cap, z, e, hn, fun h0 => ?_, fun h0 b' off' e' => ?_⟩
  rotate_left
  · obtain ⟨b, off, e0, hb, _⟩ := hA h0
    rw [e'] at e0
    injection e0 with e0
    injection e0 with e1 _ _
    rw [e1]
    exact hb
  obtain ⟨b, off, rfl, hb, hr⟩ := hA h0
  refine ⟨b, off, rfl, hb.2, fun j hj c hc => ?_⟩
  obtain ⟨C, hC, hcc⟩ := hr j hj
  rw [hcc c hc, hC c hc]

theorem procs_of (h : DataW.trod enc Tryz.prog W 0 (fun _ => true) true fuel 25 cs = some x) : ∃ A0 n cap pn pl pb, cs = [.slice A0 n cap] ∧ n ≤ maxLen ∧ PrAt 0 W A0 n pn pl pb ∧ ∀ j, j < n → (pn j).size ≤ maxLen ∧ pl j ≤ maxLen := by
  have hi : Tryz.prog.cellsOf 26 = 1 := by kernel_rfl
  have hs : Tryz.prog.cellsOf 9 = 1 := by kernel_rfl
  obtain ⟨A0, n, cap, z, e, hn, hA, hq⟩ := list_of (α := ByteArray × Nat × (Nat → Int)) (K := 2) (by omega) Tryz.underlying25 (by kernel_rfl) (fun z C => (C 0 = .string z.1 ∧ ∃ A c, C 1 = .slice A z.2.1 c ∧ IntsAt 0 W A z.2.1 z.2.2) ∧ z.1.size ≤ maxLen ∧ z.2.1 ≤ maxLen) (fun n cs' y hy => by
    obtain ⟨xs, n, _, rfl, hl, hlen, hf⟩ := DataW.trod_struct Tryz.underlying73 hy
    have h2 : xs.length = 2 := hlen
    have h0 := hf 0 _ rfl
    have h1 := hf 1 _ rfl
    rw [List.getElem?_eq_getElem (by omega)] at h0 h1
    obtain ⟨z0, e0, _, w0⟩ := DataW.trod_string Tryz.underlying9 h0
    obtain ⟨A1, m, c1, f, e1, hm, hI⟩ := ints_of h1
    exact ⟨(z0, m, f), celF cs', ⟨⟨celF_eq (at_drop1 hs e0), A1, c1, celF_eq (at_drop1 hi e1), hI⟩, w0, hm⟩, fun c hc => celF_at (by rw [hl]; kernel_rfl) hc⟩) h
  exact ⟨A0, n, cap, fun j => (z j).1, fun j => (z j).2.1, fun j => (z j).2.2, e, hn, Arr.low (R := fun w j C => (C 0 = .string (z j).1 ∧ ∃ A c, C 1 = .slice A (z j).2.1 c ∧ IntsAt 0 W A (z j).2.1 (z j).2.2) ∧ (z j).1.size ≤ maxLen ∧ (z j).2.1 ≤ maxLen) (fun _ _ h => h.1) hA (Nat.le_refl _), fun j hj => (hq j hj).choose_spec.2⟩

instance : Inhabited Stm := ⟨⟨0, 0, 0, 0, fun _ => (0, 0), 0, fun _ => 0, 0, fun _ => 0, 0, 0⟩⟩

theorem stmts_of (h : DataW.trod enc Tryz.prog W 0 (fun _ => true) true fuel 24 cs = some x) : ∃ A0 n cap st, cs = [.slice A0 n cap] ∧ n ≤ maxLen ∧ StAt 0 W A0 n st ∧ ∀ j, j < n → (st j).fits := by
  have hi : Tryz.prog.cellsOf 3 = 1 := by kernel_rfl
  have hs : Tryz.prog.cellsOf 26 = 1 := by kernel_rfl
  have hc : Tryz.prog.cellsOf 68 = 1 := by kernel_rfl
  obtain ⟨A0, n, cap, z, e, hn, hA, hq⟩ := list_of (α := Stm) (K := 8) (by omega) Tryz.underlying24 (by kernel_rfl) (fun z C => StR 0 (fun _ => z) W 0 C ∧ z.fits) (fun n cs' y hy => by
    obtain ⟨xs, n, _, rfl, hl, hlen, hf⟩ := DataW.trod_struct Tryz.underlying70 hy
    have h8 : xs.length = 8 := hlen
    have h0 := hf 0 _ rfl
    have h1 := hf 1 _ rfl
    have h2 := hf 2 _ rfl
    have h3 := hf 3 _ rfl
    have h4 := hf 4 _ rfl
    have h5 := hf 5 _ rfl
    have h6 := hf 6 _ rfl
    have h7 := hf 7 _ rfl
    rw [List.getElem?_eq_getElem (by omega)] at h0 h1 h2 h3 h4 h5 h6 h7
    obtain ⟨z0, e0, _, _⟩ := DataW.trod_int Tryz.underlying3 h0
    obtain ⟨z1, e1, _, _⟩ := DataW.trod_int Tryz.underlying3 h1
    obtain ⟨z2, e2, _, _⟩ := DataW.trod_int Tryz.underlying3 h2
    obtain ⟨A3, m3, c3, f3, e3, hm3, hI3⟩ := chs_of h3
    obtain ⟨A4, m4, c4, f4, e4, hm4, hI4⟩ := ints_of h4
    obtain ⟨A5, m5, c5, f5, e5, hm5, hI5⟩ := ints_of h5
    obtain ⟨z6, e6, _, _⟩ := DataW.trod_int Tryz.underlying3 h6
    obtain ⟨z7, e7, _, _⟩ := DataW.trod_int Tryz.underlying3 h7
    exact ⟨⟨z0, z1, z2, m3, f3, m4, f4, m5, f5, z6, z7⟩, celF cs', ⟨⟨celF_eq (at_drop1 hi e0), celF_eq (at_drop1 hi e1), celF_eq (at_drop1 hi e2), ⟨A3, c3, celF_eq (at_drop1 hc e3), hI3⟩, ⟨A4, c4, celF_eq (at_drop1 hs e4), hI4⟩, ⟨A5, c5, celF_eq (at_drop1 hs e5), hI5⟩, celF_eq (at_drop1 hi e6), celF_eq (at_drop1 hi e7)⟩, ⟨hm3, hm4, hm5⟩⟩, fun c hc => celF_at (by rw [hl]; kernel_rfl) hc⟩) h
  exact ⟨A0, n, cap, z, e, hn, Arr.low (R := fun w j C => StR 0 (fun _ => z j) W 0 C ∧ (z j).fits) (fun _ _ h => h.1) hA (Nat.le_refl _), fun j hj => (hq j hj).choose_spec.2⟩
end

set_option maxRecDepth 100000 in
/-- What a reading of a program gives the walk. -/
theorem prog_of {H : Type} {enc : TypeId × Value → H} {W : World} {v : Value} {d : DataW H} {ps : List MemPlace} (hok : Value.okWide Tryz.prog W .any 0 28 v) (h : DataW.Trod enc Tryz.prog W 0 (fun _ => true) true 28 v d ps) :
    ∃ (P : Prg) (Av Ax As Ap Ab : Option Addr) (cv cx cs cp cb : Nat), v = .agg #[.slice Av P.nv cv, .slice Ax P.nx cx, .slice As P.ns cs, .slice Ap P.np cp, .slice Ab P.nb cb, .int .i64 P.fuel] ∧ P.fits ∧ PgAt 0 W Av Ax As Ap Ab P := by
  obtain ⟨cs0, rfl, hsz⟩ := okWide_struct Tryz.underlying28 hok
  have hc6 : Tryz.prog.cellsOf 28 = 6 := by kernel_rfl
  obtain ⟨fuel, hf0⟩ := h
  obtain ⟨xs, n, _, _, hl, hlen, hf⟩ := DataW.trod_struct Tryz.underlying28 hf0
  have hi : Tryz.prog.cellsOf 3 = 1 := by kernel_rfl
  have k0 : Tryz.prog.cellsOf 22 = 1 := by kernel_rfl
  have k1 : Tryz.prog.cellsOf 23 = 1 := by kernel_rfl
  have k2 : Tryz.prog.cellsOf 24 = 1 := by kernel_rfl
  have k3 : Tryz.prog.cellsOf 25 = 1 := by kernel_rfl
  have k4 : Tryz.prog.cellsOf 26 = 1 := by kernel_rfl
  have h6 : xs.length = 6 := hlen
  have h0 := hf 0 _ rfl
  have h1 := hf 1 _ rfl
  have h2 := hf 2 _ rfl
  have h3 := hf 3 _ rfl
  have h4 := hf 4 _ rfl
  have h5 := hf 5 _ rfl
  rw [List.getElem?_eq_getElem (by omega)] at h0 h1 h2 h3 h4 h5
  obtain ⟨Av, nv, cv, vn, vz, e0, b0, r0, s0⟩ := vars_of h0
  obtain ⟨Ax, nx, cx, ex, e1, b1, r1⟩ := exs_of h1
  obtain ⟨As, ns, c2, st, e2, b2, r2, s2⟩ := stmts_of h2
  obtain ⟨Ap, np, cp, pn, pl, pb, e3, b3, r3, s3⟩ := procs_of h3
  obtain ⟨Ab, nb, cb, bd, e4, b4, r4⟩ := ints_of h4
  obtain ⟨fl, e5, _, _⟩ := DataW.trod_int Tryz.underlying3 h5
  have g0 := at_drop1 k0 e0
  have g1 := at_drop1 k1 e1
  have g2 := at_drop1 k2 e2
  have g3 := at_drop1 k3 e3
  have g4 := at_drop1 k4 e4
  have g5 := at_drop1 hi e5
  refine ⟨⟨nv, vn, vz, nx, ex, ns, st, np, pn, pl, pb, nb, bd, fl⟩, Av, Ax, As, Ap, Ab, cv, cx, c2, cp, cb, ?_, ⟨b0, b1, b2, b3, b4, s0, fun j hj => (s3 j hj).1, fun j hj => (s3 j hj).2, s2⟩, ⟨r0, r1, r2, r3, r4⟩⟩
  rw [hc6] at hsz
  obtain ⟨l⟩ := cs0
  match l, hsz with
  | [v0, v1, v2, v3, v4, v5], _ =>
    have t0 : some v0 = some (Value.slice Av nv cv) := g0
    have t1 : some v1 = some (Value.slice Ax nx cx) := g1
    have t2 : some v2 = some (Value.slice As ns c2) := g2
    have t3 : some v3 = some (Value.slice Ap np cp) := g3
    have t4 : some v4 = some (Value.slice Ab nb cb) := g4
    have t5 : some v5 = some (Value.int .i64 fl) := g5
    cases t0; cases t1; cases t2; cases t3; cases t4; cases t5
    rfl

end Go.Proofs.YtoaiejodbmkbjaaGreatDoor
