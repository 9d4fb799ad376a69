/-
  Several texts in one: DgKm, DgUr, DgMs.
-/
import Derived.Test.YtamjfcckgeakfaaDgK
import Derived.Test.YtamjfcckgeakfaaDgBm
/-
  Decision diagrams: a map whose keys are known, from states to references; the table of different nodes.
-/
namespace Go.Proofs.Ytamjfcckgeakfaa
open Go.RowKit Num

/-- Only the blocks g and h may differ. -/
structure But2 (g h : Nat) (w w' : World) : Prop where
  os : w'.os = w.os
  tape : w'.tape = w.tape
  output : w'.output = w.output
  size : w.heap.size ≤ w'.heap.size
  block : ∀ k, k < w.heap.size → k ≠ g → k ≠ h → w'.heap[k]? = w.heap[k]?
theorem But2.refl (g h : Nat) (w : World) : But2 g h w w := ⟨rfl, rfl, rfl, Nat.le_refl _, fun _ _ _ _ => rfl⟩
theorem But2.trans {g h : Nat} {a b c : World} (x : But2 g h a b) (y : But2 g h b c) : But2 g h a c :=
  ⟨y.os.trans x.os, y.tape.trans x.tape, y.output.trans x.output, Nat.le_trans x.size y.size, fun k h1 h2 h3 => (y.block k (Nat.lt_of_lt_of_le h1 x.size) h2 h3).trans (x.block k h1 h2 h3)⟩
theorem But2.of_below {g h : Nat} {w w' : World} (x : Below w.heap.size w w') : But2 g h w w' := ⟨x.os, x.tape, x.output, x.size, fun k hk _ _ => x.block k hk⟩
theorem But2.of_grown {g h : Nat} {w w' : World} {r : Nat} (x : w.grownBy w' (some r)) (hr : r = g ∨ r = h) : But2 g h w w' := ⟨x.os, x.tape, x.output, x.size, fun k hk h1 h2 => x.block k hk (by intro e; cases e; omega)⟩
theorem But2.below {g h B : Nat} {w w' : World} (x : But2 g h w w') (hg : B ≤ g) (hh : B ≤ h) (hB : B ≤ w.heap.size) : Below B w w' := ⟨x.os, x.tape, x.output, x.size, fun k hk => x.block k (by omega) (by omega) (by omega)⟩
theorem Box.but2 {g h b : Nat} {w w' : World} {t : TypeId} {cs : Array Value} (k : Box w b t cs) (x : But2 g h w w') (h1 : b ≠ g) (h2 : b ≠ h) : Box w' b t cs := (x.block b k.lt h1 h2).trans k

/-- Values as keys of a map to ints. -/
structure KeyOk (K M : TypeId) {S : Type} (enc : S → Value) (key : S → Lit) : Prop where
  keyed : Maps.Keyed Try.prog K
  map : Try.prog.underlying M = some (.map K 3)
  of : ∀ s, keyOf Try.prog K (enc s) = some (key s)
  inj : ∀ s t, key s = key t → s = t

/-- What a map reads as at a state. -/
def litR : Option Nat → DataW Unit → DataW Unit
  | some r, _ => .lit (.int .i64 (r : Nat))
  | none, z => z

/-- Block m is a map that says kn, of sz entries. -/
def KM (K : TypeId) {S : Type} (key : S → Lit) (w : World) (m cnt sz : Nat) (kn : S → Option Nat) : Prop :=
  ∃ D : DataW Unit, w.ownsMap Try.prog K (plainElem Try.prog 3) m cnt D ∧ Maps.size D = sz ∧ (∀ s z, D.atKey (key s) z = litR (kn s) z) ∧ ∀ kl, Maps.has D kl = true → ∃ s, kl = key s ∧ (kn s).isSome = true

section
variable {K M : TypeId} {S : Type} {enc : S → Value} {key : S → Lit} {w w' : World} {m cnt sz : Nat} {kn : S → Option Nat}

theorem KM.keep (h : KM K key w m cnt sz kn) (k : w'.heap[m]? = w.heap[m]?) : KM K key w' m cnt sz kn := by
  obtain ⟨D, ⟨es, cl, hb, r⟩, h2⟩ := h
  exact ⟨D, ⟨es, cl, k.trans hb, r⟩, h2⟩
theorem KM.lt (h : KM K key w m cnt sz kn) : m < w.heap.size := by
  obtain ⟨D, ⟨es, cl, hb, r⟩, h2⟩ := h
  exact heap_lt hb
theorem KM.has {D : DataW Unit} (h3 : ∀ s z, D.atKey (key s) z = litR (kn s) z) (s : S) : Maps.has D (key s) = (kn s).isSome := by
  cases hk : kn s with
  | none => exact Maps.has_false_of_atKey (fun z => by rw [h3, hk]; rfl)
  | some r => exact Maps.has_true_of_atKey (y := .lit (.int .i64 (r : Nat))) (fun z => by rw [h3, hk]; rfl)

theorem KM.get (ok : KeyOk K M enc key) (h : KM K key w m cnt sz kn) (s : S) (W : World) (hW : W.heap = w.heap) :
    (Instr.lookup M (.map (some m)) (enc s) false).run Try.prog W = .ok (.int .i64 ((kn s).getD 0 : Nat)) W := by
  obtain ⟨D, h1, _, h3, _⟩ := h.keep (w' := W) (by rw [hW])
  obtain ⟨c, hrun, hat, _⟩ := h1.lookup_int ok.keyed ok.map Try.underlying3 (Try.zeroIntDg W) (ok.of s)
  rw [h3] at hat
  rw [hrun]
  cases hk : kn s <;> rw [hk] at hat <;> simp only [litR, DataW.lit.injEq, Lit.int.injEq, true_and] at hat <;> rw [← hat] <;> rfl

theorem KM.ok (ok : KeyOk K M enc key) (h : KM K key w m cnt sz kn) (s : S) (W : World) (hW : W.heap = w.heap) :
    (Instr.lookup M (.map (some m)) (enc s) true).run Try.prog W = .ok (.tuple #[.int .i64 ((kn s).getD 0 : Nat), .bool (kn s).isSome]) W := by
  obtain ⟨D, h1, _, h3, _⟩ := h.keep (w' := W) (by rw [hW])
  obtain ⟨v, ps, hrun, hv⟩ := h1.look_ok ok.keyed ok.map (Try.zeroIntDg W) (plainElem_int Try.underlying3 (by decide)) (ok.of s)
  obtain ⟨c, rfl, hc, _⟩ := plainElem_int_inv Try.underlying3 hv
  simp only [Prod.mk.injEq] at hc
  have hat := hc.1
  rw [h3] at hat
  rw [hrun, KM.has h3]
  cases hk : kn s <;> rw [hk] at hat <;> simp only [litR, DataW.lit.injEq, Lit.int.injEq, true_and] at hat <;> rw [← hat] <;> rfl

theorem KM.len (ok : KeyOk K M enc key) (h : KM K key w m cnt sz kn) (ty : TypeId) (W : World) (hW : W.heap = w.heap) : (Builtin.len_ #[M] ty #[.map (some m)]).run Try.prog W = .ok (.int .i64 (sz : Nat)) W := by
  obtain ⟨D, h1, h2, _⟩ := h.keep (w' := W) (by rw [hW])
  rw [h1.len ok.map ty, h2]

theorem KM.put [DecidableEq S] (ok : KeyOk K M enc key) (h : KM K key w m cnt sz kn) (s : S) (r : Nat) (hr : r < 9223372036854775808) (hcnt : cnt < maxLen) :
    ∃ w', (Instr.mapUpdate M (.map (some m)) (enc s) (.int .i64 (r : Nat))).run Try.prog w = .ok () w' ∧ KM K key w' m (cnt + 1) (if (kn s).isSome then sz else sz + 1) (fun x => if x = s then some r else kn x) ∧ w.grownBy w' (some m) := by
  obtain ⟨D, h1, h2, h3, h4⟩ := h
  have hwf : (Lit.int .i64 ((r : Nat) : Int)).wf = true := WalkArith.wf_i64 (by omega)
  obtain ⟨w', hrun, hown, hg⟩ := h1.store ok.keyed ok.map hcnt (ok.of s) (plainElem_int (H := Unit) Try.underlying3 hwf)
  have hkl := ok.keyed.key (ok.of s)
  refine ⟨w', hrun, ⟨_, hown, ?_, fun x z => ?_, fun kl hkl' => ?_⟩, hg.grown⟩
  · rw [Maps.size_put (h1.tidy ok.keyed), KM.has h3, h2]
  · by_cases he : x = s
    · subst he
      dsimp only
      rw [if_pos rfl, Maps.atKey_put_same (h1.isMap) hkl]
      rfl
    · dsimp only
      rw [if_neg he, Maps.atKey_put_other (fun e => he (ok.inj _ _ e)), h3]
  · by_cases he : kl = key s
    · exact ⟨s, he, by dsimp only; rw [if_pos rfl]; rfl⟩
    · rw [Maps.has_put_other he] at hkl'
      obtain ⟨x, hx, hs⟩ := h4 kl hkl'
      have : x ≠ s := fun e => he (by rw [hx, e])
      exact ⟨x, hx, by dsimp only; rw [if_neg this]; exact hs⟩

theorem KM.made (w : World) (K : TypeId) (key : S → Lit) : KM K key (w.alloc (.map #[] 0)) w.heap.size 0 0 (fun _ => none) :=
  ⟨.map [], World.ownsMap_made _ _ _ _, rfl, fun _ _ => rfl, fun _ h => by cases h⟩
end

/-- A node whose numbers are small. -/
def Sm (x : Dg.Nd) : Prop := x.1 < 4611686018427387904 ∧ x.2.1 < 4611686018427387904 ∧ x.2.2 < 4611686018427387904
abbrev SN := { x : Dg.Nd // Sm x }
/-- A node's value. -/
abbrev ndV (x : Dg.Nd) : Value := .agg #[.int .i64 (x.1 : Nat), .int .i64 (x.2.1 : Nat), .int .i64 (x.2.2 : Nat)]
noncomputable def ndK (x : SN) : Lit := (keyOf Try.prog 86 (ndV x.1)).getD (.bool false)
theorem ndK_eq (x : SN) : keyOf Try.prog 86 (ndV x.1) = some (ndK x) := by
  obtain ⟨⟨v, a, b⟩, h1, h2, h3⟩ := x
  obtain ⟨l, hl⟩ := keyOf_dg (v : Int) (a : Int) (b : Int) (WalkArith.wf_i64 (by omega)) (WalkArith.wf_i64 (by simp at h2; omega)) (WalkArith.wf_i64 (by simp at h3; omega))
  rw [ndK, hl]; rfl
theorem ndOk : KeyOk 86 119 (fun x : SN => ndV x.1) ndK where
  keyed := Try.keyedDg
  map := Try.mapDg
  of := ndK_eq
  inj s t e := by
    have e1 := ndK_eq s
    rw [e] at e1
    have e3 := Try.lawDg.inj e1 (ndK_eq t)
    simp only [Value.agg.injEq, Array.mk.injEq, List.cons.injEq, Value.int.injEq, true_and, and_true] at e3
    refine Subtype.ext (Prod.ext ?_ (Prod.ext ?_ ?_)) <;> omega

/-- Block m is the table of the nodes ns. -/
def Ut (w : World) (m : Nat) (ns : List Dg.Nd) : Prop :=
  ns.Nodup ∧ (∀ x ∈ ns, Sm x) ∧ KM 86 ndK w m ns.length ns.length (fun x : SN => if x.1 ∈ ns then some (ns.idxOf x.1 + 2) else none)
theorem Ut.keep {w w' : World} {m : Nat} {ns : List Dg.Nd} (h : Ut w m ns) (k : w'.heap[m]? = w.heap[m]?) : Ut w' m ns := ⟨h.1, h.2.1, h.2.2.keep k⟩
theorem Ut.lt {w : World} {m : Nat} {ns : List Dg.Nd} (h : Ut w m ns) : m < w.heap.size := h.2.2.lt
theorem Ut.made (w : World) : Ut (w.alloc (.map #[] 0)) w.heap.size [] := by
  refine ⟨by simp, by simp, ?_⟩
  have := KM.made w 86 ndK
  simpa using this
theorem Ut.put {w : World} {m : Nat} {ns : List Dg.Nd} (h : Ut w m ns) (x : SN) (hx : x.1 ∉ ns) (hl : ns.length < 1048576) :
    ∃ w', (Instr.mapUpdate 119 (.map (some m)) (ndV x.1) (.int .i64 ((ns.length + 2 : Nat) : Int))).run Try.prog w = .ok () w' ∧ Ut w' m (ns ++ [x.1]) ∧ w.grownBy w' (some m) := by
  obtain ⟨h1, h2, h3⟩ := h
  obtain ⟨w', hrun, hk, hg⟩ := h3.put ndOk x (ns.length + 2) (by omega) (by unfold maxLen; omega)
  refine ⟨w', hrun, ⟨?_, ?_, ?_⟩, hg⟩
  · rw [List.nodup_append]
    exact ⟨h1, by simp, fun a ha b hb => by rw [List.mem_singleton] at hb; subst hb; intro e; exact hx (e ▸ ha)⟩
  · intro y hy
    rcases List.mem_append.1 hy with h | h
    · exact h2 y h
    · rw [List.mem_singleton] at h; subst h; exact x.2
  · rw [if_neg hx, if_neg (by simp)] at hk
    rw [List.length_append, List.length_singleton]
    have e : (fun y : SN => if y.1 ∈ ns ++ [x.1] then some ((ns ++ [x.1]).idxOf y.1 + 2) else none) = fun y : SN => if y = x then some (ns.length + 2) else if y.1 ∈ ns then some (ns.idxOf y.1 + 2) else none := by
      funext y
      by_cases hy : y = x
      · subst hy
        rw [if_pos (by simp), if_pos rfl, List.idxOf_append, if_neg hx]
        simp
      · rw [if_neg hy]
        have hne : y.1 ≠ x.1 := fun e => hy (Subtype.ext e)
        by_cases hm : y.1 ∈ ns
        · rw [if_pos (by simp [hm]), if_pos hm, List.idxOf_append, if_pos hm]
        · rw [if_neg (by simp [hm, hne]), if_neg hm]
    rw [e]
    exact hk

end Go.Proofs.Ytamjfcckgeakfaa
/-
  Decision diagrams: the table of different nodes is asked for a node's reference.
-/
namespace Go.Proofs.Ytamjfcckgeakfaa
open Go.RowKit Num

theorem Box.duo {w : World} {g : Nat} {t : TypeId} {a b : Value} (h : Box w g t #[a, b]) : w.cell? ⟨g, 0, none⟩ = some a ∧ w.cell? ⟨g, 1, none⟩ = some b := ⟨h.cell 0, h.cell 1⟩
theorem Box.quad {w : World} {g : Nat} {t : TypeId} {a b c d : Value} (h : Box w g t #[a, b, c, d]) : w.cell? ⟨g, 0, none⟩ = some a ∧ w.cell? ⟨g, 1, none⟩ = some b ∧ w.cell? ⟨g, 2, none⟩ = some c ∧ w.cell? ⟨g, 3, none⟩ = some d := ⟨h.cell 0, h.cell 1, h.cell 2, h.cell 3⟩
theorem Box.hexa {w : World} {g : Nat} {t : TypeId} {a b c d e f : Value} (h : Box w g t #[a, b, c, d, e, f]) : w.cell? ⟨g, 0, none⟩ = some a ∧ w.cell? ⟨g, 1, none⟩ = some b ∧ w.cell? ⟨g, 2, none⟩ = some c ∧ w.cell? ⟨g, 3, none⟩ = some d ∧ w.cell? ⟨g, 4, none⟩ = some e ∧ w.cell? ⟨g, 5, none⟩ = some f := ⟨h.cell 0, h.cell 1, h.cell 2, h.cell 3, h.cell 4, h.cell 5⟩

set_option maxRecDepth 100000 in
set_option maxHeartbeats 1600000 in
theorem uref_any (m v a b : Nat) (ns : List Dg.Nd) (w : World) (hs : Sm (v, a, b)) (h : Ut w m ns) (hl : ns.length < 1048576) :
    Calls Try.prog 95 #[.map (some m), .agg #[.int .i64 (v : Nat), .int .i64 (a : Nat), .int .i64 (b : Nat)]] w fun e w' => e = .returned (.int .i64 ((Dg.putN ns v a b).1 : Nat)) ∧ Ut w' m (Dg.putN ns v a b).2 ∧ But2 m m w w' := by
  have hX := Box.new w 86 #[.int .i64 (v : Nat), .int .i64 (a : Nat), .int .i64 (b : Nat)]
  have hb1 := (Below.refl w.heap.size w).alloc (Nat.le_refl _) (.cells #[.int .i64 (v : Nat), .int .i64 (a : Nat), .int .i64 (b : Nat)] 86)
  have h1 := h.keep (w' := w.alloc (.cells #[.int .i64 (v : Nat), .int .i64 (a : Nat), .int .i64 (b : Nat)] 86)) (hb1.block m h.lt)
  by_cases hab : a = b
  · subst hab
    have e1 : ((a : Int) == (a : Int)) = true := beq_self_eq_true _
    obtain ⟨x0, x1, x2⟩ := hX.trio
    go_enter Try.func95, Try.ntmps95
    go_wp2_with fail
    go_ret
    unfold Dg.putN
    rw [if_pos rfl]
    exact ⟨rfl, h1, .of_below hb1⟩
  · have e1 : ((a : Int) == (b : Int)) = false := by rw [beq_eq_false_iff_ne]; omega
    obtain ⟨x, hx⟩ : ∃ x : SN, x.1 = (v, a, b) := ⟨⟨_, hs⟩, rfl⟩
    have LK := h1.2.2.ok ndOk x _ rfl
    have LN := fun ty => h1.2.2.len ndOk ty _ rfl
    by_cases hm : (v, a, b) ∈ ns
    · have LG := h1.2.2.get ndOk x _ rfl
      rw [hx, if_pos hm] at LK LG
      obtain ⟨x0, x1, x2⟩ := hX.trio
      have HM := Lib.hid h1
      clear h h1 LN
      go_enter Try.func95, Try.ntmps95
      go_wp2_with fail
      go_ret
      unfold Dg.putN
      rw [if_neg hab]
      dsimp only
      rw [if_pos hm]
      exact ⟨rfl, HM.out, .of_below hb1⟩
    · rw [hx, if_neg hm] at LK
      have e2 : IntKind.i64.wrap (2 + (ns.length : Int)) = (ns.length : Int) + 2 := by rw [IntWalk.i64_in _ (by omega)]; omega
      obtain ⟨w2, hput, hu2, hg⟩ := h1.put x (by rw [hx]; exact hm) hl
      rw [hx, show ((ns.length + 2 : Nat) : Int) = (ns.length : Int) + 2 by omega] at hput
      rw [hx] at hu2
      have hX2 := grown_box hg hX (fun e => by cases e; exact absurd h.lt (Nat.lt_irrefl _))
      have LG := hu2.2.2.get ndOk x _ rfl
      rw [hx, if_pos (by simp), List.idxOf_append, if_neg hm] at LG
      obtain ⟨x0, x1, x2⟩ := hX.trio
      obtain ⟨y0, y1, y2⟩ := hX2.trio
      have HM := Lib.hid hu2
      have HT : Hid (But2 m m w w2) := Lib.hid ((But2.of_below hb1).trans (.of_grown hg (.inl rfl)))
      clear h h1 hu2 hg hX hX2
      go_enter Try.func95, Try.ntmps95
      go_wp2_with fail
      go_ret
      unfold Dg.putN
      rw [if_neg hab]
      dsimp only
      rw [if_neg hm, List.idxOf_eq_length hm]
      exact ⟨by simp, HM.out, HT.out⟩

end Go.Proofs.Ytamjfcckgeakfaa
/-
  Decision diagrams, plain mathematics: what the builder knows and makes stays small.
-/
namespace Go.Proofs.Ytamjfcckgeakfaa
open Go.RowKit Num
namespace Dg
variable {S : Type} [DecidableEq S]

theorem putN_len (ns : List Nd) (v a b : Nat) : (putN ns v a b).2.length ≤ ns.length + 1 := by
  unfold putN
  split
  · exact Nat.le_succ _
  · dsimp only
    split
    · exact Nat.le_succ _
    · simp
theorem putN_ref (ns : List Nd) (v a b : Nat) (ha : a < 4002) (hn : ns.length + 1 ≤ 4000) : (putN ns v a b).1 < 4002 := by
  unfold putN
  split
  · exact ha
  · dsimp only
    have := List.idxOf_le_length (a := (v, a, b)) (l := ns)
    omega

theorem mk_small {L : Nat} {B : Br S} (hval : ∀ s, L ≤ B.lev s → B.val s < 4002) : ∀ k s kn ns, (∀ x r, kn x = some r → r < 4002) → ns.length + 2 ^ k ≤ 4000 →
    (mk L B k s kn ns).1 < 4002 ∧ (∀ x r, (mk L B k s kn ns).2.1 x = some r → r < 4002) ∧ (mk L B k s kn ns).2.2.length + 1 ≤ ns.length + 2 ^ k
  | 0, s, kn, ns, hk, hn => by
    rw [mk]
    exact ⟨by omega, hk, by simp⟩
  | k + 1, s, kn, ns, hk, hn => by
    have hp : 0 < 2 ^ k := Nat.pow_pos (by omega)
    rw [Nat.pow_succ] at hn
    rw [mk, Nat.pow_succ]
    cases hks : kn s with
    | some r => exact ⟨hk s r hks, hk, by dsimp only; omega⟩
    | none =>
      dsimp only
      by_cases hl : B.lev s < L
      · rw [if_pos hl]
        obtain ⟨a1, a2, a3⟩ := mk_small hval k (B.lo s) kn ns hk (by omega)
        generalize mk L B k (B.lo s) kn ns = a at a1 a2 a3 ⊢
        obtain ⟨b1, b2, b3⟩ := mk_small hval k (B.hi s) a.2.1 a.2.2 a2 (by omega)
        generalize mk L B k (B.hi s) a.2.1 a.2.2 = b at b1 b2 b3 ⊢
        have c1 := putN_ref b.2.2 (B.lev s) a.1 b.1 a1 (by omega)
        have c2 := putN_len b.2.2 (B.lev s) a.1 b.1
        refine ⟨c1, fun x r h => ?_, by dsimp only; omega⟩
        dsimp only at h
        by_cases hx : x = s
        · rw [if_pos hx] at h; cases h; exact c1
        · rw [if_neg hx] at h; exact b2 x r h
      · rw [if_neg hl]
        have c1 := hval s (by omega)
        refine ⟨c1, fun x r h => ?_, by dsimp only; omega⟩
        dsimp only at h
        by_cases hx : x = s
        · rw [if_pos hx] at h; cases h; exact c1
        · rw [if_neg hx] at h; exact hk x r h

end Dg
end Go.Proofs.Ytamjfcckgeakfaa
