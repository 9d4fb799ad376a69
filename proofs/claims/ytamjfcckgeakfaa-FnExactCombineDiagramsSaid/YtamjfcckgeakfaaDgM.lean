/-
  Decision diagrams, plain mathematics: a list of nodes, the function of a reference, the diagram built out of a truth table, the order in which a traversal leaves the nodes; a diagram is the one built out of its own table just if its nodes differ, have different children and are left in their order.
-/
namespace Go.Proofs.Ytamjfcckgeakfaa
namespace Dg

/-- A node: level, low, high. -/
abbrev Nd := Nat × Nat × Nat

def nd (N : List Nd) (r : Nat) : Nd := N.getD (r - 2) (0, 0, 0)

/-- The reference to go on with behind a level. -/
def ch (N : List Nd) (r l : Nat) (b : Bool) : Nat := if r < 2 ∨ (nd N r).1 ≠ l then r else if b then (nd N r).2.2 else (nd N r).2.1

/-- The value of a reference for the last m levels, where the bits of j decide. -/
def ev (N : List Nd) (L : Nat) : Nat → Nat → Nat → Bool
  | 0, r, _ => r == 1
  | m + 1, r, j => ev N L m (ch N r (L - (m + 1)) (j / 2 ^ m % 2 == 1)) j

/-- Levels and references are in order. -/
def Shp (L : Nat) (N : List Nd) : Prop := ∀ k, k < N.length → (nd N (k + 2)).1 < L ∧ (nd N (k + 2)).2.1 < k + 2 ∧ (nd N (k + 2)).2.2 < k + 2 ∧
  (2 ≤ (nd N (k + 2)).2.1 → (nd N (k + 2)).1 < (nd N (nd N (k + 2)).2.1).1) ∧ (2 ≤ (nd N (k + 2)).2.2 → (nd N (k + 2)).1 < (nd N (nd N (k + 2)).2.2).1)

def Red (N : List Nd) : Prop := ∀ k, k < N.length → (nd N (k + 2)).2.1 ≠ (nd N (k + 2)).2.2
def Clo (N : List Nd) : Prop := ∀ k, k < N.length → (nd N (k + 2)).2.1 < k + 2 ∧ (nd N (k + 2)).2.2 < k + 2

/-- The diagram of a part of a table. -/
def bld (T : Nat → Bool) (L : Nat) : Nat → Nat → List Nd → Nat × List Nd
  | 0, q, ns => ((T q).toNat, ns)
  | m + 1, q, ns =>
    let a := bld T L m (2 * q) ns
    let b := bld T L m (2 * q + 1) a.2
    if a.1 = b.1 then (a.1, b.2) else (b.2.idxOf (L - (m + 1), a.1, b.1) + 2, if (L - (m + 1), a.1, b.1) ∈ b.2 then b.2 else b.2 ++ [(L - (m + 1), a.1, b.1)])

/-- The references that have been left behind a visit. -/
def vs (N : List Nd) (R : Nat → Bool) : Nat → Nat → List Nat → List Nat
  | 0, _, lf => lf
  | m + 1, r, lf => if r < 2 ∨ R r = false ∨ r ∈ lf then lf else vs N R m (nd N r).2.2 (vs N R m (nd N r).2.1 lf) ++ [r]

/-- The first c references to nodes. -/
def seg (c : Nat) : List Nat := (List.range c).map (· + 2)

theorem mem_seg {c r : Nat} : r ∈ seg c ↔ 2 ≤ r ∧ r < c + 2 := by
  unfold seg
  rw [List.mem_map]
  constructor
  · rintro ⟨k, hk, rfl⟩
    rw [List.mem_range] at hk
    omega
  · rintro ⟨h1, h2⟩
    exact ⟨r - 2, List.mem_range.2 (by omega), by omega⟩
theorem seg_len (c : Nat) : (seg c).length = c := by simp [seg]
theorem seg_succ (c : Nat) : seg (c + 1) = seg c ++ [c + 2] := by simp [seg, List.range_succ]
theorem seg_zero : seg 0 = [] := rfl
theorem seg_inj {a b : Nat} (h : seg a = seg b) : a = b := by have := congrArg List.length h; rwa [seg_len, seg_len] at this
theorem seg_prefix {c : Nat} {l : List Nat} (h : l <+: seg c) : l = seg l.length ∧ l.length ≤ c := by
  have hl := h.length_le
  rw [seg_len] at hl
  refine ⟨?_, hl⟩
  have := List.prefix_iff_eq_take.1 h
  rw [this]
  simp only [List.length_take, seg_len]
  unfold seg
  rw [← List.map_take, List.take_range]

theorem nodup_inj {α : Type} {l : List α} (h : l.Nodup) {i j : Nat} (hi : i < l.length) (hj : j < l.length) (e : l[i] = l[j]) : i = j := by
  rw [List.Nodup, List.pairwise_iff_getElem] at h
  rcases Nat.lt_trichotomy i j with h' | h' | h'
  · exact absurd e (h i j hi hj h')
  · exact h'
  · exact absurd e.symm (h j i hj hi h')

theorem nd_take {N : List Nd} {c r : Nat} (h : r < c + 2) (hr : 2 ≤ r) : nd (N.take c) r = nd N r := by
  unfold nd
  simp only [List.getD_eq_getElem?_getD, List.getElem?_take]
  rw [if_pos (by omega)]
theorem nd_get {N : List Nd} {k : Nat} (h : k < N.length) : nd N (k + 2) = N[k] := by
  unfold nd
  simp [List.getD_eq_getElem?_getD, h]
theorem nd_mem {N : List Nd} {k : Nat} (h : k < N.length) : nd N (k + 2) ∈ N := by rw [nd_get h]; exact List.getElem_mem h

theorem idx_nodup {N : List Nd} (hN : N.Nodup) {k : Nat} (h : k < N.length) : N.idxOf (nd N (k + 2)) = k := by
  rw [nd_get h]
  exact List.Nodup.idxOf_getElem hN k h

theorem vs_zero (N : List Nd) (R : Nat → Bool) (r : Nat) (lf : List Nat) : vs N R 0 r lf = lf := rfl
theorem vs_succ (N : List Nd) (R : Nat → Bool) (m r : Nat) (lf : List Nat) : vs N R (m + 1) r lf = if r < 2 ∨ R r = false ∨ r ∈ lf then lf else vs N R m (nd N r).2.2 (vs N R m (nd N r).2.1 lf) ++ [r] := rfl

theorem vs_ext (N : List Nd) (R : Nat → Bool) : ∀ m r lf, ∃ t, vs N R m r lf = lf ++ t
  | 0, _, lf => ⟨[], by simp [vs]⟩
  | m + 1, r, lf => by
    rw [vs]
    split
    · exact ⟨[], by simp⟩
    · obtain ⟨t1, h1⟩ := vs_ext N R m (nd N r).2.1 lf
      rw [h1]
      obtain ⟨t2, h2⟩ := vs_ext N R m (nd N r).2.2 (lf ++ t1)
      rw [h2]
      exact ⟨t1 ++ t2 ++ [r], by simp⟩

/-- A reference's level is at least l, or it is a constant. -/
def Up (N : List Nd) (l r : Nat) : Prop := r < 2 ∨ l ≤ (nd N r).1

section
variable {L : Nat} {N : List Nd}

theorem Shp.lo (h : Shp L N) {r : Nat} (h2 : 2 ≤ r) (hr : r < N.length + 2) : (nd N r).2.1 < r ∧ Up N ((nd N r).1 + 1) (nd N r).2.1 := by
  have := h (r - 2) (by omega)
  rw [show r - 2 + 2 = r by omega] at this
  refine ⟨by omega, ?_⟩
  by_cases hc : 2 ≤ (nd N r).2.1
  · exact .inr (this.2.2.2.1 hc)
  · exact .inl (by omega)
theorem Shp.hi (h : Shp L N) {r : Nat} (h2 : 2 ≤ r) (hr : r < N.length + 2) : (nd N r).2.2 < r ∧ Up N ((nd N r).1 + 1) (nd N r).2.2 := by
  have := h (r - 2) (by omega)
  rw [show r - 2 + 2 = r by omega] at this
  refine ⟨by omega, ?_⟩
  by_cases hc : 2 ≤ (nd N r).2.2
  · exact .inr (this.2.2.2.2 hc)
  · exact .inl (by omega)
theorem Shp.lv (h : Shp L N) {r : Nat} (h2 : 2 ≤ r) (hr : r < N.length + 2) : (nd N r).1 < L := by
  have := h (r - 2) (by omega)
  rw [show r - 2 + 2 = r by omega] at this
  exact this.1
theorem Up.mono {a b r : Nat} (h : Up N a r) (hb : b ≤ a) : Up N b r := by
  rcases h with h | h
  · exact .inl h
  · exact .inr (by omega)
theorem Up.top (h : Shp L N) {r : Nat} (hr : r < N.length + 2) (hu : Up N L r) : r < 2 := by
  rcases hu with h' | h'
  · exact h'
  · by_cases h2 : 2 ≤ r
    · have := h.lv h2 hr; omega
    · omega

theorem vs_more (h : Shp L N) (R : Nat → Bool) : ∀ m r lf, m ≤ L → r < N.length + 2 → Up N (L - m) r → vs N R (m + 1) r lf = vs N R m r lf
  | 0, r, lf, _, hr, hu => by
    have := Up.top h hr hu
    rw [vs_succ, if_pos (.inl this), vs_zero]
  | m + 1, r, lf, hm, hr, hu => by
    rw [vs_succ N R (m + 1) r, vs_succ N R m r]
    by_cases hc : r < 2 ∨ R r = false ∨ r ∈ lf
    · rw [if_pos hc, if_pos hc]
    · rw [if_neg hc, if_neg hc]
      have h2 : 2 ≤ r := by omega
      have hl : L - (m + 1) ≤ (nd N r).1 := by rcases hu with h' | h' <;> omega
      obtain ⟨a1, a2⟩ := h.lo h2 hr
      obtain ⟨b1, b2⟩ := h.hi h2 hr
      rw [vs_more h R m _ _ (by omega) (by omega) (a2.mono (by omega)), vs_more h R m _ _ (by omega) (by omega) (b2.mono (by omega))]

theorem ev_half {m q j r : Nat} (b : Bool) (hj : j / 2 ^ m = 2 * q + b.toNat) : ev N L (m + 1) r j = ev N L m (ch N r (L - (m + 1)) b) j := by
  rw [ev]
  congr 2
  rw [hj]
  cases b <;> simp <;> omega

theorem half_of {m q j : Nat} {b : Bool} (hj : j / 2 ^ m = 2 * q + b.toNat) : j / 2 ^ (m + 1) = q := by
  rw [Nat.pow_succ, ← Nat.div_div_eq_div_mul, hj]
  cases b <;> simp <;> omega

/-- What is there already is not built anew. -/
theorem bld_old (T : Nat → Bool) (hs : Shp L N) (hr : Red N) (hn : N.Nodup) {c : Nat} (hc : c ≤ N.length) : ∀ m q r, m ≤ L → r < c + 2 → Up N (L - m) r → (∀ j, j / 2 ^ m = q → T j = ev N L m r j) → bld T L m q (N.take c) = (r, N.take c)
  | 0, q, r, _, h1, hu, hT => by
    have h2 := Up.top hs (by omega) hu
    have h3 := hT q (by simp)
    rw [bld, h3, ev]
    match r, h2 with
    | 0, _ => rfl
    | 1, _ => rfl
  | m + 1, q, r, hm, h1, hu, hT => by
    have key : ∀ b : Bool, bld T L m (2 * q + b.toNat) (N.take c) = (ch N r (L - (m + 1)) b, N.take c) := by
      intro b
      have hch : ch N r (L - (m + 1)) b < c + 2 ∧ Up N (L - m) (ch N r (L - (m + 1)) b) := by
        unfold ch
        by_cases hk : r < 2 ∨ (nd N r).1 ≠ L - (m + 1)
        · rw [if_pos hk]
          refine ⟨h1, ?_⟩
          rcases hk with hk | hk
          · exact .inl hk
          · rcases hu with hu | hu
            · exact .inl hu
            · exact .inr (by omega)
        · rw [if_neg hk]
          obtain ⟨a1, a2⟩ := hs.lo (r := r) (by omega) (by omega)
          obtain ⟨b1, b2⟩ := hs.hi (r := r) (by omega) (by omega)
          cases b
          · rw [if_neg (by simp)]; exact ⟨by omega, a2.mono (by omega)⟩
          · rw [if_pos rfl]; exact ⟨by omega, b2.mono (by omega)⟩
      refine bld_old T hs hr hn hc m _ _ (by omega) hch.1 hch.2 fun j hj => ?_
      rw [hT j (half_of hj), ev_half b hj]
    have k0 := key false
    have k1 := key true
    simp only [Bool.toNat_false, Bool.toNat_true, Nat.add_zero] at k0 k1
    rw [bld]
    simp only [k0, k1]
    by_cases hk : r < 2 ∨ (nd N r).1 ≠ L - (m + 1)
    · simp only [ch, if_pos hk, if_true]
    · simp only [ch, if_neg hk, Bool.false_eq_true, if_false, if_true]
      have h2 : 2 ≤ r := by omega
      have hne := hr (r - 2) (by omega)
      rw [show r - 2 + 2 = r by omega] at hne
      rw [if_neg hne]
      have hx : (L - (m + 1), (nd N r).2.1, (nd N r).2.2) = nd (N.take c) (r - 2 + 2) := by
        rw [nd_take (by omega) (by omega), show r - 2 + 2 = r by omega]
        have : L - (m + 1) = (nd N r).1 := by omega
        rw [this]
      have hlen : r - 2 < (N.take c).length := by rw [List.length_take]; omega
      rw [hx, idx_nodup (hn.sublist (List.take_sublist _ _)) hlen, if_pos (nd_mem hlen)]
      congr 1
      omega

/-- What a traversal leaves in order is what is built. -/
theorem bld_new (T : Nat → Bool) (hs : Shp L N) (hr : Red N) (hn : N.Nodup) : ∀ m q r c c', m ≤ L → r < N.length + 2 → c ≤ N.length → c' ≤ N.length → Up N (L - m) r → (∀ j, j / 2 ^ m = q → T j = ev N L m r j) → vs N (fun _ => true) m r (seg c) = seg c' →
    bld T L m q (N.take c) = (r, N.take c') ∧ r < c' + 2 := by
  intro m
  induction m with
  | zero =>
    intro q r c c' hm h1 hc hc' hu hT hv
    have h2 := Up.top hs h1 hu
    rw [vs] at hv
    obtain rfl := seg_inj hv
    exact ⟨bld_old T hs hr hn hc 0 q r hm (by omega) hu hT, by omega⟩
  | succ m ih =>
    intro q r c c' hm h1 hc hc' hu hT hv
    by_cases hold : r < c + 2
    · rw [vs, if_pos (by
        by_cases h2 : r < 2
        · exact .inl h2
        · exact .inr (.inr (mem_seg.2 ⟨by omega, hold⟩)))] at hv
      obtain rfl := seg_inj hv
      exact ⟨bld_old T hs hr hn hc _ q r hm hold hu hT, hold⟩
    · have h2 : 2 ≤ r := by omega
      have hl : L - (m + 1) ≤ (nd N r).1 := by rcases hu with h' | h' <;> omega
      by_cases hlv : (nd N r).1 = L - (m + 1)
      · rw [vs, if_neg (by
          rintro (h' | h' | h')
          · omega
          · cases h'
          · exact hold (mem_seg.1 h').2)] at hv
        obtain ⟨t1, e1⟩ := vs_ext N (fun _ => true) m (nd N r).2.1 (seg c)
        obtain ⟨t2, e2⟩ := vs_ext N (fun _ => true) m (nd N r).2.2 (vs N (fun _ => true) m (nd N r).2.1 (seg c))
        cases c' with
        | zero => simp [seg_zero] at hv
        | succ c' =>
          rw [seg_succ] at hv
          obtain ⟨hv1, hv2⟩ := List.append_inj' hv rfl
          simp only [List.cons.injEq, and_true] at hv2
          have hp : vs N (fun _ => true) m (nd N r).2.1 (seg c) <+: seg c' := ⟨t2, by rw [← hv1]; exact e2.symm⟩
          obtain ⟨e3, e4⟩ := seg_prefix hp
          generalize (vs N (fun _ => true) m (nd N r).2.1 (seg c)).length = c1 at e3 e4
          rw [e3] at hv1
          obtain ⟨a1, a2⟩ := hs.lo h2 h1
          obtain ⟨b1, b2⟩ := hs.hi h2 h1
          have chl : ∀ b : Bool, ch N r (L - (m + 1)) b = if b then (nd N r).2.2 else (nd N r).2.1 := fun b => by
            unfold ch; rw [if_neg (by omega)]
          obtain ⟨A1, A2⟩ := ih (2 * q) _ c c1 (by omega) (by omega) hc (by omega) (a2.mono (by omega)) (fun j hj => by
            rw [hT j (half_of (b := false) (by simpa using hj)), ev_half false (by simpa using hj), chl]; rfl) e3
          obtain ⟨B1, B2⟩ := ih (2 * q + 1) _ c1 c' (by omega) (by omega) (by omega) (by omega) (b2.mono (by omega)) (fun j hj => by
            rw [hT j (half_of (b := true) (by simpa using hj)), ev_half true (by simpa using hj), chl]; rfl) hv1
          have hne := hr (r - 2) (by omega)
          rw [show r - 2 + 2 = r by omega] at hne
          refine ⟨?_, by omega⟩
          rw [bld]
          simp only [A1, B1]
          rw [if_neg hne]
          have hx : (L - (m + 1), (nd N r).2.1, (nd N r).2.2) = nd N (c' + 2) := by rw [← hlv, hv2]
          have hget : nd N (c' + 2) = N[c'] := nd_get (by omega)
          have hni : nd N (c' + 2) ∉ N.take c' := by
            intro hmem
            rw [hget] at hmem
            obtain ⟨i, hi, he⟩ := List.getElem_of_mem hmem
            rw [List.getElem_take] at he
            rw [List.length_take] at hi
            have := nodup_inj hn (by omega) (by omega) he
            omega
          rw [hx, if_neg hni, List.idxOf_eq_length hni, List.length_take, hget, ← List.take_succ_eq_append_getElem (by omega)]
          congr 1
          omega
      · have hu' : Up N (L - m) r := .inr (by omega)
        have hch : ∀ b, ch N r (L - (m + 1)) b = r := fun b => by unfold ch; rw [if_pos (.inr hlv)]
        rw [vs_more hs _ m r _ (by omega) h1 hu'] at hv
        obtain ⟨A1, A2⟩ := ih (2 * q) r c c' (by omega) h1 hc hc' hu' (fun j hj => by
          rw [hT j (half_of (b := false) (by simpa using hj)), ev_half false (by simpa using hj), hch]) hv
        have B1 := bld_old T hs hr hn hc' m (2 * q + 1) r (by omega) A2 hu' (fun j hj => by
          rw [hT j (half_of (b := true) (by simpa using hj)), ev_half true (by simpa using hj), hch])
        refine ⟨?_, A2⟩
        rw [bld]
        simp only [A1, B1, if_true]
end

/-- What building keeps and makes. -/
structure Made (L m : Nat) (ns : List Nd) (r : Nat) (ns' : List Nd) : Prop where
  pre : ns <+: ns'
  nodup : ns'.Nodup
  red : Red ns'
  clo : Clo ns'
  ref : r < ns'.length + 2
  lev : ∀ k, ns.length ≤ k → k < ns'.length → L - m ≤ (nd ns' (k + 2)).1
  last : ns' = ns ∨ r = ns'.length + 1
  up : Up ns' (L - m) r

theorem nd_pre {ns ns' : List Nd} (h : ns <+: ns') {r : Nat} (hr : r < ns.length + 2) (h2 : 2 ≤ r) : nd ns' r = nd ns r := by
  rw [List.prefix_iff_eq_take.1 h, nd_take hr h2]

/-- A node that is found was there ahead of both halves. -/
theorem Made.found {L m : Nat} {ns ns1 ns2 : List Nd} {a b k : Nat} (hm : m + 1 ≤ L) (Ha : Made L m ns a ns1) (B : Made L m ns1 b ns2) (hi : k < ns2.length) (hg : nd ns2 (k + 2) = (L - (m + 1), a, b)) : ns1 = ns ∧ ns2 = ns1 ∧ k < ns.length := by
  have l1 := Ha.pre.length_le
  have l2 := B.pre.length_le
  have hlev : ∀ k, ns.length ≤ k → k < ns2.length → L - m ≤ (nd ns2 (k + 2)).1 := fun k ha hb => by
    by_cases hk : k < ns1.length
    · rw [nd_pre B.pre (by omega) (by omega)]; exact Ha.lev k ha hk
    · exact B.lev k (by omega) hb
  have hk : k < ns.length := by
    apply Nat.lt_of_not_le
    intro hle
    have := hlev k hle hi
    rw [hg] at this
    simp only at this
    omega
  have hc := B.clo k hi
  rw [hg] at hc
  simp only at hc
  have e1 : ns1 = ns := by
    rcases Ha.last with e | e
    · exact e
    · have : ns.length < ns1.length ∨ ns.length = ns1.length := by omega
      rcases this with h' | h'
      · omega
      · exact (Ha.pre.eq_of_length h').symm
  have e2 : ns2 = ns1 := by
    rcases B.last with e | e
    · exact e
    · have : ns1.length < ns2.length ∨ ns1.length = ns2.length := by omega
      rcases this with h' | h'
      · omega
      · exact (B.pre.eq_of_length h').symm
  exact ⟨e1, e2, hk⟩

theorem bld_made (T : Nat → Bool) (L : Nat) : ∀ m q ns, m ≤ L → ns.Nodup → Red ns → Clo ns → Made L m ns (bld T L m q ns).1 (bld T L m q ns).2
  | 0, q, ns, _, h1, h2, h3 => by
    rw [bld]
    have : (T q).toNat < 2 := by cases T q <;> simp
    exact ⟨List.prefix_rfl, h1, h2, h3, by show _ < _; simp only; omega, fun k a b => absurd b (by simp only; omega), .inl rfl, .inl this⟩
  | m + 1, q, ns, hm, h1, h2, h3 => by
    have Ha := bld_made T L m (2 * q) ns (by omega) h1 h2 h3
    have B := bld_made T L m (2 * q + 1) (bld T L m (2 * q) ns).2 (by omega) Ha.nodup Ha.red Ha.clo
    rw [bld]
    generalize bld T L m (2 * q) ns = a at Ha B ⊢
    generalize bld T L m (2 * q + 1) a.2 = b at B ⊢
    obtain ⟨a, ns1⟩ := a
    obtain ⟨b, ns2⟩ := b
    simp only at Ha B ⊢
    have l1 := Ha.pre.length_le
    have l2 := B.pre.length_le
    have hlev : ∀ k, ns.length ≤ k → k < ns2.length → L - m ≤ (nd ns2 (k + 2)).1 := fun k ha hb => by
      by_cases hk : k < ns1.length
      · rw [nd_pre B.pre (by omega) (by omega)]; exact Ha.lev k ha hk
      · exact B.lev k (by omega) hb
    have hA := Ha.ref
    have hB := B.ref
    by_cases hab : a = b
    · rw [if_pos hab]
      subst hab
      refine ⟨Ha.pre.trans B.pre, B.nodup, B.red, B.clo, B.ref, fun k x y => Nat.le_trans (by omega) (hlev k x y), ?_, B.up.mono (by omega)⟩
      show ns2 = ns ∨ a = ns2.length + 1
      rcases B.last with e | e
      · rw [e]; exact Ha.last
      · exact .inr e
    · rw [if_neg hab]
      by_cases hx : (L - (m + 1), a, b) ∈ ns2
      · rw [if_pos hx]
        have hi := List.idxOf_lt_length_iff.2 hx
        have hg : nd ns2 (ns2.idxOf (L - (m + 1), a, b) + 2) = (L - (m + 1), a, b) := by rw [nd_get hi]; exact List.getElem_idxOf hi
        obtain ⟨e1, e2, hk⟩ := Made.found hm Ha B hi hg
        generalize ns2.idxOf (L - (m + 1), a, b) = k at hi hg
        exact ⟨Ha.pre.trans B.pre, B.nodup, B.red, B.clo, by show _ < _; simp only; omega, fun k x y => Nat.le_trans (by omega) (hlev k x y), .inl (e2.trans e1), .inr (by show _ ≤ (nd ns2 (k + 2)).1; rw [hg]; exact Nat.le_refl _)⟩
      · rw [if_neg hx, List.idxOf_eq_length hx]
        have hold : ∀ k, k < ns2.length → nd (ns2 ++ [(L - (m + 1), a, b)]) (k + 2) = nd ns2 (k + 2) := fun k hk => nd_pre (List.prefix_append _ _) (by omega) (by omega)
        have hnew : nd (ns2 ++ [(L - (m + 1), a, b)]) (ns2.length + 2) = (L - (m + 1), a, b) := by rw [nd_get (by simp)]; simp
        refine ⟨(Ha.pre.trans B.pre).trans (List.prefix_append _ _), ?_, ?_, ?_, ?_, ?_, .inr ?_, .inr ?_⟩
        · rw [List.nodup_append]
          refine ⟨B.nodup, by simp, ?_⟩
          intro x hx1 y hy e
          simp only [List.mem_singleton] at hy
          subst hy e
          exact hx hx1
        · intro k hk
          rw [List.length_append, List.length_singleton] at hk
          by_cases hk2 : k < ns2.length
          · rw [hold k hk2]; exact B.red k hk2
          · obtain rfl : k = ns2.length := by omega
            rw [hnew]; exact hab
        · intro k hk
          rw [List.length_append, List.length_singleton] at hk
          by_cases hk2 : k < ns2.length
          · rw [hold k hk2]; exact B.clo k hk2
          · obtain rfl : k = ns2.length := by omega
            rw [hnew]; exact ⟨by show a < _; omega, hB⟩
        · show _ < _; simp
        · intro k x y
          rw [List.length_append, List.length_singleton] at y
          by_cases hk2 : k < ns2.length
          · rw [hold k hk2]; exact Nat.le_trans (by omega) (hlev k x hk2)
          · obtain rfl : k = ns2.length := by omega
            rw [hnew]; exact Nat.le_refl _
        · show _ = _; simp
        · show _ ≤ (nd _ (ns2.length + 2)).1; rw [hnew]; exact Nat.le_refl _

/-- What is built is left in order. -/
theorem vs_bld (T : Nat → Bool) {L : Nat} {N : List Nd} (hs : Shp L N) (hr : Red N) (hn : N.Nodup) : ∀ m q c c', m ≤ L → c ≤ N.length → c' ≤ N.length → (bld T L m q (N.take c)).2 = N.take c' → vs N (fun _ => true) m (bld T L m q (N.take c)).1 (seg c) = seg c' := by
  have hgood : ∀ c, c ≤ N.length → (N.take c).Nodup ∧ Red (N.take c) ∧ Clo (N.take c) := fun c hc => by
    refine ⟨hn.sublist (List.take_sublist _ _), fun k hk => ?_, fun k hk => ?_⟩ <;> rw [List.length_take] at hk <;> rw [nd_take (by omega) (by omega)]
    · exact hr k (by omega)
    · exact ⟨(hs k (by omega)).2.1, (hs k (by omega)).2.2.1⟩
  have htl : ∀ c, c ≤ N.length → (N.take c).length = c := fun c hc => by rw [List.length_take]; omega
  intro m
  induction m with
  | zero =>
    intro q c c' _ hc hc' h
    rw [bld] at h
    simp only at h
    have := congrArg List.length h
    rw [htl c hc, htl c' hc'] at this
    subst this
    rw [vs]
  | succ m ih =>
    intro q c c' hm hc hc' h
    obtain ⟨g1, g2, g3⟩ := hgood c hc
    have Ha := bld_made T L m (2 * q) (N.take c) (by omega) g1 g2 g3
    have B := bld_made T L m (2 * q + 1) (bld T L m (2 * q) (N.take c)).2 (by omega) Ha.nodup Ha.red Ha.clo
    have M := bld_made T L (m + 1) q (N.take c) hm g1 g2 g3
    have i1 := ih (2 * q) c
    have i2 := ih (2 * q + 1)
    have hM := M
    rw [bld] at h M ⊢
    have p2 : (bld T L m (2 * q + 1) (bld T L m (2 * q) (N.take c)).2).2 <+: N.take c' := by
      rw [← h]
      split
      · exact List.prefix_rfl
      · simp only
        split
        · exact List.prefix_rfl
        · exact List.prefix_append _ _
    have q2 : (bld T L m (2 * q + 1) (bld T L m (2 * q) (N.take c)).2).2 = N.take (bld T L m (2 * q + 1) (bld T L m (2 * q) (N.take c)).2).2.length := List.prefix_iff_eq_take.1 (p2.trans (List.take_prefix _ _))
    have q1 : (bld T L m (2 * q) (N.take c)).2 = N.take (bld T L m (2 * q) (N.take c)).2.length := List.prefix_iff_eq_take.1 ((B.pre.trans p2).trans (List.take_prefix _ _))
    have n2 : (bld T L m (2 * q + 1) (bld T L m (2 * q) (N.take c)).2).2.length ≤ N.length := (p2.trans (List.take_prefix _ _)).length_le
    have n1 : (bld T L m (2 * q) (N.take c)).2.length ≤ N.length := ((B.pre.trans p2).trans (List.take_prefix _ _)).length_le
    generalize (bld T L m (2 * q) (N.take c)).2.length = c1 at q1 n1
    have j1 := i1 c1 (by omega) hc n1 q1
    have j2 := i2 c1 (bld T L m (2 * q + 1) (bld T L m (2 * q) (N.take c)).2).2.length (by omega) n1 n2
    rw [← q1] at j2
    replace j2 := j2 q2
    generalize hb : bld T L m (2 * q + 1) (bld T L m (2 * q) (N.take c)).2 = b at B h M p2 q2 n2 j2 hM ⊢
    generalize bld T L m (2 * q) (N.take c) = a at Ha B h M q1 j1 j2 ⊢
    obtain ⟨a, ns1⟩ := a
    obtain ⟨b, ns2⟩ := b
    simp only at Ha B h M p2 q1 q2 n2 j1 j2 ⊢
    subst q1
    generalize ns2.length = c2 at q2 n2 j2
    subst q2
    have la := Ha.pre.length_le
    have lb := B.pre.length_le
    have hA := Ha.ref
    have hB := B.ref
    rw [htl c hc, htl c1 n1] at la
    rw [htl c1 n1, htl c2 n2] at lb
    rw [htl c1 n1] at hA
    rw [htl c2 n2] at hB
    by_cases hab : a = b
    · rw [if_pos hab] at h M ⊢
      simp only at h M ⊢
      subst hab
      have e := congrArg List.length h
      rw [htl c2 n2, htl c' hc'] at e
      subst e
      have e12 : c1 = c2 := by
        rcases B.last with e | e
        · have := congrArg List.length e
          rw [htl c1 n1, htl c2 n2] at this
          exact this.symm
        · rw [htl c2 n2] at e; omega
      subst e12
      rw [vs_more hs _ m a _ (by omega) (by omega) ?_]
      · exact j1
      · rcases Ha.up with h' | h'
        · exact .inl h'
        · by_cases h2 : 2 ≤ a
          · rw [nd_take (by omega) h2] at h'; exact .inr h'
          · exact .inl (by omega)
    · rw [if_neg hab] at h M ⊢
      simp only at h M ⊢
      by_cases hx : (L - (m + 1), a, b) ∈ N.take c2
      · rw [if_pos hx] at h M
        have e := congrArg List.length h
        rw [htl c2 n2, htl c' hc'] at e
        subst e
        have hi := List.idxOf_lt_length_iff.2 hx
        rw [htl c2 n2] at hi
        have hg : nd (N.take c2) ((N.take c2).idxOf (L - (m + 1), a, b) + 2) = (L - (m + 1), a, b) := by
          have hi' : (N.take c2).idxOf (L - (m + 1), a, b) < (N.take c2).length := by rw [htl c2 n2]; exact hi
          rw [nd_get hi']; exact List.getElem_idxOf hi'
        obtain ⟨e1, e2, hk⟩ := Made.found hm Ha B (by rw [htl c2 n2]; exact hi) hg
        have el : c2 = c := by
          have := congrArg List.length (e2.trans e1)
          rwa [htl c2 n2, htl c hc] at this
        subst el
        have hq : ∀ x, x + 2 < c2 + 2 → vs N (fun _ => true) (m + 1) (x + 2) (seg c2) = seg c2 := fun x h' => by rw [vs_succ, if_pos (.inr (.inr (mem_seg.2 ⟨by omega, h'⟩)))]
        exact hq _ (Nat.add_lt_add_right hi 2)
      · rw [if_neg hx] at h
        have e := congrArg List.length h
        rw [List.length_append, htl c2 n2, htl c' hc', List.length_singleton] at e
        subst e
        rw [List.idxOf_eq_length hx, htl c2 n2]
        have hget : nd N (c2 + 2) = (L - (m + 1), a, b) := by
          rw [nd_get (by omega)]
          rw [List.take_succ_eq_append_getElem (by omega)] at h
          have := List.append_inj_right h rfl
          simp only [List.cons.injEq, and_true] at this
          exact this.symm
        rw [vs, if_neg (by
          rintro (h' | h' | h')
          · omega
          · cases h'
          · have := (mem_seg.1 h').2; omega), hget]
        simp only
        rw [j1, j2, seg_succ]

/-- A diagram is the one built out of its own table. -/
theorem built_iff {L : Nat} {N : List Nd} {r : Nat} (hs : Shp L N) (hr : r < N.length + 2) :
    bld (ev N L L r) L L 0 [] = (r, N) ↔ N.Nodup ∧ Red N ∧ vs N (fun _ => true) L r [] = seg N.length := by
  constructor
  · intro h
    have M := bld_made (ev N L L r) L L 0 [] (Nat.le_refl _) (by simp) (fun k hk => absurd hk (by simp)) (fun k hk => absurd hk (by simp))
    rw [h] at M
    refine ⟨M.nodup, M.red, ?_⟩
    have := vs_bld (ev N L L r) hs M.red M.nodup L 0 0 N.length (Nat.le_refl _) (Nat.zero_le _) (Nat.le_refl _)
    simp only [List.take_zero, List.take_length] at this
    rw [h] at this
    exact this rfl
  · rintro ⟨h1, h2, h3⟩
    have := (bld_new (ev N L L r) hs h2 h1 L 0 r 0 N.length (Nat.le_refl _) hr (Nat.zero_le _) (Nat.le_refl _) (.inr (by omega)) (fun _ _ => rfl) h3).1
    simpa using this

theorem vs_len (N : List Nd) (R : Nat → Bool) : ∀ m r lf, (vs N R m r lf).length + 1 ≤ lf.length + 2 ^ m
  | 0, _, lf => by simp [vs]
  | m + 1, r, lf => by
    rw [vs]
    have hp : 0 < 2 ^ m := Nat.pow_pos (by omega)
    split
    · rw [Nat.pow_succ]; omega
    · have a := vs_len N R m (nd N r).2.1 lf
      have b := vs_len N R m (nd N r).2.2 (vs N R m (nd N r).2.1 lf)
      rw [List.length_append, List.length_singleton, Nat.pow_succ]
      omega

theorem vs_good {L : Nat} {N : List Nd} (hs : Shp L N) (R : Nat → Bool) : ∀ m r lf, r < N.length + 2 → lf.Nodup → (∀ x ∈ lf, 2 ≤ x ∧ x < N.length + 2 ∧ R x = true) → (∀ x ∈ lf, r < 2 ∨ r ≤ x → x ∈ lf) →
    (vs N R m r lf).Nodup ∧ (∀ x ∈ vs N R m r lf, 2 ≤ x ∧ x < N.length + 2 ∧ R x = true) ∧ (∀ x ∈ vs N R m r lf, x ∈ lf ∨ x ≤ r)
  | 0, _, lf, _, h1, h2, _ => by rw [vs]; exact ⟨h1, h2, fun x hx => .inl hx⟩
  | m + 1, r, lf, hr, h1, h2, h3 => by
    rw [vs]
    split
    · exact ⟨h1, h2, fun x hx => .inl hx⟩
    · rename_i hc
      have hc2 : 2 ≤ r := by omega
      have hR : R r = true := by cases e : R r with | true => rfl | false => exact absurd (.inr (.inl e)) hc
      have hm : r ∉ lf := fun e => hc (.inr (.inr e))
      have hlo := hs.lo hc2 hr
      have hhi := hs.hi hc2 hr
      obtain ⟨a1, a2, a3⟩ := vs_good hs R m (nd N r).2.1 lf (by omega) h1 h2 (fun x hx _ => hx)
      obtain ⟨b1, b2, b3⟩ := vs_good hs R m (nd N r).2.2 (vs N R m (nd N r).2.1 lf) (by omega) a1 a2 (fun x hx _ => hx)
      have hn : r ∉ vs N R m (nd N r).2.2 (vs N R m (nd N r).2.1 lf) := fun e => by
        rcases b3 r e with e | e
        · rcases a3 r e with e | e
          · exact hm e
          · omega
        · omega
      refine ⟨?_, ?_, ?_⟩
      · rw [List.nodup_append]
        refine ⟨b1, by simp, fun x hx y hy e => ?_⟩
        simp only [List.mem_singleton] at hy
        subst hy e
        exact hn hx
      · intro x hx
        rcases List.mem_append.1 hx with hx | hx
        · exact b2 x hx
        · rcases List.mem_singleton.1 hx with rfl
          exact ⟨hc2, hr, hR⟩
      · intro x hx
        rcases List.mem_append.1 hx with hx | hx
        · rcases b3 x hx with hx | hx
          · rcases a3 x hx with hx | hx
            · exact .inl hx
            · exact .inr (by omega)
          · exact .inr (by omega)
        · rcases List.mem_singleton.1 hx with rfl
          exact .inr (Nat.le_refl _)

/-- A rising list of n of the n references is all of them. -/
theorem sorted_seg {n : Nat} {l : List Nat} (hl : l.length = n) (hs : ∀ i (h : i + 1 < l.length), l[i] < l[i + 1]) (hb : ∀ x ∈ l, 2 ≤ x ∧ x < n + 2) : l = seg n := by
  have lower : ∀ i (h : i < l.length), i + 2 ≤ l[i] := by
    intro i
    induction i with
    | zero => intro h; have := (hb _ (List.getElem_mem h)).1; omega
    | succ i ih => intro h; have := ih (by omega); have := hs i h; omega
  have upper : ∀ d i (h : i < l.length), i + d + 1 = n → l[i] ≤ i + 2 := by
    intro d
    induction d with
    | zero => intro i h e; have := (hb _ (List.getElem_mem h)).2; omega
    | succ d ih => intro i h e; have := ih (i + 1) (by omega) (by omega); have := hs i (by omega); omega
  apply List.ext_getElem
  · rw [seg_len, hl]
  · intro i h1 h2
    have a := lower i h1
    have b := upper (n - (i + 1)) i h1 (by omega)
    simp only [seg, List.getElem_map, List.getElem_range]
    omega

theorem vs_congr {L : Nat} {N : List Nd} (hs : Shp L N) {R R' : Nat → Bool} (h : ∀ r, 2 ≤ r → r < N.length + 2 → R r = R' r) : ∀ m r lf, r < N.length + 2 → vs N R m r lf = vs N R' m r lf
  | 0, _, _, _ => by rw [vs, vs]
  | m + 1, r, lf, hr => by
    rw [vs, vs]
    by_cases h2 : 2 ≤ r
    · have hlo := hs.lo h2 hr
      have hhi := hs.hi h2 hr
      rw [h r h2 hr, vs_congr hs h m _ _ (by omega), vs_congr hs h m _ _ (by omega)]
    · rw [if_pos (.inl (by omega)), if_pos (.inl (by omega))]

/-- The last node that equals a node is the node itself. -/
def IsLast (N : List Nd) (r : Nat) : Prop := ∀ k, r - 2 < k → k < N.length → nd N (k + 2) ≠ nd N r

/-- What the program asks, and what the model asks. -/
theorem valid_iff {L : Nat} {N : List Nd} {r : Nat} (hs : Shp L N) (hr : r < N.length + 2) (R : Nat → Bool) (hR : ∀ x, 2 ≤ x → x < N.length + 2 → (R x = true ↔ IsLast N x)) :
    (Red N ∧ (vs N R L r []).length = N.length ∧ ∀ i (h : i + 1 < (vs N R L r []).length), (vs N R L r [])[i] ≤ (vs N R L r [])[i + 1]) ↔ bld (ev N L L r) L L 0 [] = (r, N) := by
  rw [built_iff hs hr]
  constructor
  · rintro ⟨h1, h2, h3⟩
    obtain ⟨g1, g2, _⟩ := vs_good hs R L r [] hr (by simp) (by simp) (by simp)
    have e : vs N R L r [] = seg N.length := sorted_seg h2 (fun i h => by
      have := h3 i h
      have hne : (vs N R L r [])[i] ≠ (vs N R L r [])[i + 1] := fun e => by
        have := nodup_inj g1 _ _ e
        omega
      omega) (fun x hx => ⟨(g2 x hx).1, (g2 x hx).2.1⟩)
    have hall : ∀ x, 2 ≤ x → x < N.length + 2 → R x = true := fun x a b => (g2 x (by rw [e]; exact mem_seg.2 ⟨a, b⟩)).2.2
    have hnd : N.Nodup := by
      rw [List.Nodup, List.pairwise_iff_getElem]
      intro i j hi hj hij he
      have := (hR (i + 2) (by omega) (by omega)).1 (hall _ (by omega) (by omega)) j (by omega) hj
      rw [nd_get hj, nd_get hi] at this
      exact this he.symm
    exact ⟨hnd, h1, by rw [← e]; exact (vs_congr hs (fun x a b => (hall x a b).symm) L r [] hr)⟩
  · rintro ⟨h1, h2, h3⟩
    have hall : ∀ x, 2 ≤ x → x < N.length + 2 → R x = true := fun x a b => (hR x a b).2 fun k hk hkn => by
      intro e
      rw [show x = x - 2 + 2 by omega, nd_get hkn, nd_get (by omega)] at e
      have := nodup_inj h1 _ _ e
      omega
    have e : vs N R L r [] = seg N.length := by rw [← h3]; exact vs_congr hs (fun x a b => hall x a b) L r [] hr
    refine ⟨h2, by rw [e, seg_len], fun i h => ?_⟩
    simp only [e]
    simp [seg]

theorem valid_len {L : Nat} {N : List Nd} {r : Nat} (hs : Shp L N) (hr : r < N.length + 2) (h : bld (ev N L L r) L L 0 [] = (r, N)) : N.length + 1 ≤ 2 ^ L := by
  have h3 := ((built_iff hs hr).1 h).2.2
  have := vs_len N (fun _ => true) L r []
  rw [h3, seg_len] at this
  simpa using this

end Dg
end Go.Proofs.Ytamjfcckgeakfaa
