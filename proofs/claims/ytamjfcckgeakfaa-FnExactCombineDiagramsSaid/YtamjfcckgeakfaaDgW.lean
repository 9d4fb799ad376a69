/-
  Decision diagrams, the program: a traversal's visit.
-/
import Derived.Test.YtamjfcckgeakfaaDgT
import Derived.StillTailTactics
namespace Go.Proofs.Ytamjfcckgeakfaa
open Go.RowKit Num

theorem Try.infoIntDg : (Try.prog.info? 3).map (fun i => (i.zero, i.size, i.bytes)) = some (some (.int .i64 0), 1, 8) := by kernel_rfl

/-- A traversal under way. -/
structure Tv (B T m n c : Nat) (A0 : Option Addr) (f : Nat → Int) (w0 w : World) (lf : List Nat) : Prop where
  bel : Below B w0 w
  box : ∃ v, Box w T 121 #[.slice A0 n c, .map (some m), v] ∧ w.ownsRow (T + 1) 3 1 v lf.length (lf.map fun (r : Nat) => Value.int .i64 (r : Int))
  map : MapU w m n n f (un (ndl n f) lf)

/-- Blocks of nodes stay. -/
def Frm (w w' : World) : Prop := ∀ g cs, Box w g 86 cs → Box w' g 86 cs
theorem Frm.refl (w : World) : Frm w w := fun _ _ h => h
theorem Frm.trans {a b c : World} (h : Frm a b) (k : Frm b c) : Frm a c := fun g cs x => k g cs (h g cs x)
theorem Frm.alloc (w : World) (o : Obj) : Frm w (w.alloc o) := fun _ _ h => h.alloc o

theorem grown_box {w w' : World} {row : Option Nat} (h : w.grownBy w' row) {g : Nat} {t : TypeId} {cs : Array Value} (hb : Box w g t cs) (hne : some g ≠ row) : Box w' g t cs := (h.block g hb.lt hne).trans hb

theorem box_not_map {w : World} {m cnt n : Nat} {f : Nat → Int} {U : Nat → Nat} (h : MapU w m cnt n f U) {g : Nat} {t : TypeId} {cs : Array Value} (hb : Box w g t cs) : g ≠ m := fun e => by
  subst e
  obtain ⟨D, ⟨es, cl, h1, _⟩, _⟩ := h
  unfold Box at hb
  rw [h1] at hb
  cases hb

theorem own_apart {w : World} {base n : Nat} {t t' : TypeId} {v : Value} {xs : List Value} (h : w.ownsRow base t 1 v n xs) {g : Nat} {cs : Array Value} (hb : Box w g t' cs) (hne : t' ≠ t) : some g ≠ v.ownBlock := fun e => by
  rcases h.2 with ⟨rfl, _⟩ | ⟨k, cap, cur, rfl, _, h4, _⟩
  · simp [Value.ownBlock] at e
  · have e' : g = k := by simpa [Value.ownBlock] using e
    subst e'
    unfold Box at hb
    rw [h4] at hb
    injection hb with hb
    injection hb with _ ht
    exact hne ht.symm

theorem own_old {w : World} {base n g : Nat} {t : TypeId} {v : Value} {xs : List Value} (h : w.ownsRow base t 1 v n xs) (hg : g < base) : some g ≠ v.ownBlock := fun e => by
  rcases h.2 with ⟨rfl, _⟩ | ⟨k, cap, cur, rfl, h3, h4, _⟩
  · simp [Value.ownBlock] at e
  · have e' : g = k := by simpa [Value.ownBlock] using e
    omega

theorem own_slice {w : World} {base n k : Nat} {t : TypeId} {v : Value} {xs : List Value} (h : w.ownsRow base t k v n xs) : ∃ A m c, v = .slice A m c := by
  rcases h.2 with ⟨rfl, _⟩ | ⟨g, cap, cur, rfl, _⟩
  · exact ⟨_, _, _, rfl⟩
  · exact ⟨_, _, _, rfl⟩

theorem grown_below {B : Nat} {w0 w w' : World} {row : Option Nat} (hb : Below B w0 w) (h : w.grownBy w' row) (hr : ∀ k, row = some k → B ≤ k) (hB : B ≤ w.heap.size) : Below B w0 w' := hb.grown h hB fun k hk => hr k hk

theorem un_iff {N : List Dg.Nd} {lf : List Nat} {r : Nat} (h2 : 2 ≤ r) : un N lf (r - 2) = r ↔ (own N r = true ∧ r ∉ lf) := by
  unfold un own
  rw [show r - 2 + 2 = r by omega, decide_eq_true_eq]
  split
  · rename_i h
    constructor
    · intro e; omega
    · rintro ⟨e, h'⟩; rw [e] at h; exact absurd h h'
  · rename_i h
    constructor
    · intro e; rw [e] at h; exact ⟨e, h⟩
    · exact fun h' => h'.1

theorem un_leave {N : List Dg.Nd} {lf : List Nat} {r : Nat} (h2 : 2 ≤ r) (_hr : r < N.length + 2) (ho : own N r = true) {k : Nat} (_hk : k < N.length) :
    (if Dg.nd N (r - 2 + 2) = Dg.nd N (k + 2) then 0 else un N lf k) = un N (lf ++ [r]) k := by
  unfold own at ho
  rw [decide_eq_true_eq] at ho
  unfold un
  rw [show r - 2 + 2 = r by omega]
  by_cases he : Dg.nd N r = Dg.nd N (k + 2)
  · rw [if_pos he, ← he, ho, if_pos (by simp)]
  · rw [if_neg he]
    have hne : le N (Dg.nd N (k + 2)) N.length ≠ r := fun e => by
      rcases le_bound N (Dg.nd N (k + 2)) N.length with h | h
      · omega
      · rw [e] at h; exact he h.2.2
    by_cases hm : le N (Dg.nd N (k + 2)) N.length ∈ lf
    · rw [if_pos hm, if_pos (List.mem_append_left _ hm)]
    · rw [if_neg hm, if_neg (by
        intro h
        rcases List.mem_append.1 h with h | h
        · exact hm h
        · exact hne (List.mem_singleton.1 h))]

/-- What a visit leaves. -/
def VsPost (B T m n c : Nat) (A0 : Option Addr) (f : Nat → Int) (w0 : World) (q r : Nat) (lf : List Nat) (w : World) (e : Ending) (w' : World) : Prop :=
  e = .returned (.tuple #[]) ∧ Tv B T m n c A0 f w0 w' (Dg.vs (ndl n f) (own (ndl n f)) q r lf) ∧ Frm w w'

set_option maxRecDepth 100000 in
set_option maxHeartbeats 6400000 in
theorem visit_any (lo : Nat) (L : Int) (B T m n c : Nat) (A0 : Option Addr) (f : Nat → Int) (w0 : World) (hs : ShpI L n f) (hL : L ≤ 10) (hn : n ≤ 1048576) (hBm : B ≤ m) (hmT : m < T) (hB0 : w0.heap.size ≤ B) (h0 : IntsAt lo w0 A0 (n * 3) f) :
    ∀ (q r : Nat) (lf : List Nat) (w : World), q ≤ L.toNat → r < n + 2 → Dg.Up (ndl n f) (L.toNat - q) r → lf.length + 2 ^ q ≤ 4000 → Tv B T m n c A0 f w0 w lf →
    Calls Try.prog 86 #[.pointer (some ⟨T, 0, none⟩), .int .i64 (r : Nat)] w (VsPost B T m n c A0 f w0 q r lf w) := by
  intro q
  induction q with
  | zero =>
    intro r lf w hq hr hu hl hv
    have h2 : r < 2 := Dg.Up.top hs.shp (by rw [ndl_len]; exact hr) hu
    have d2 : decide ((r : Int) < 2) = true := decide_eq_true (by omega)
    go_enter Try.func86, Try.ntmps86
    go_wp2_with fail
    refine bodyPost_ret (v := .tuple #[]) (by simp [results, Try.results86, go_sem]; done) rfl ⟨rfl, ?_, Frm.refl _⟩
    rw [Dg.vs_zero]
    exact hv
  | succ q ih =>
    intro r lf w hq hr hu hl hv
    by_cases h2 : r < 2
    · have d2 : decide ((r : Int) < 2) = true := decide_eq_true (by omega)
      go_enter Try.func86, Try.ntmps86
      go_wp2_with fail
      refine bodyPost_ret (v := .tuple #[]) (by simp [results, Try.results86, go_sem]; done) rfl ⟨rfl, ?_, Frm.refl _⟩
      rw [Dg.vs_succ, if_pos (.inl h2)]
      exact hv
    · have d2 : decide ((r : Int) < 2) = false := decide_eq_false (by omega)
      have hk : r - 2 < n := by omega
      have hN : (ndl n f).length = n := ndl_len n f
      obtain ⟨b, off, rfl, hb, r0, r1, r2⟩ := (h0.below hv.bel hB0).trio hk
      obtain ⟨v, hT, hown⟩ := hv.box
      obtain ⟨t0, t1, t2⟩ := hT.trio
      have e2 : IntKind.i64.wrap ((r : Int) - 2) = ((r - 2 : Nat) : Int) := by rw [IntWalk.i64_in _ (by omega)]; omega
      have hBT : B ≤ T := by omega
      obtain ⟨w1, hw1⟩ : ∃ w1, w1 = w.alloc (.cells #[.int .i64 (f ((r - 2) * 3)), .int .i64 (f ((r - 2) * 3 + 1)), .int .i64 (f ((r - 2) * 3 + 2))] 86) := ⟨_, rfl⟩
      have hX : Box w1 w.heap.size 86 #[.int .i64 (f ((r - 2) * 3)), .int .i64 (f ((r - 2) * 3 + 1)), .int .i64 (f ((r - 2) * 3 + 2))] := by rw [hw1]; exact Box.new w _ _
      have hT1 : Box w1 T 121 #[.slice (some ⟨b, off, none⟩) n c, .map (some m), v] := by rw [hw1]; exact hT.alloc _
      have hm1 : MapU w1 m n n f (un (ndl n f) lf) := by rw [hw1]; exact hv.map.keep (Below.heap_alloc _ _ _ hv.map.lt)
      have hF1 : Frm w w1 := by rw [hw1]; exact Frm.alloc _ _
      have hb1 : Below B w0 w1 := by rw [hw1]; exact hv.bel.alloc (by have := hT.lt; omega) _
      have ho1 : w1.ownsRow (T + 1) 3 1 v lf.length (lf.map fun (r : Nat) => Value.int .i64 (r : Int)) := by rw [hw1]; exact hown.alloc _
      have LK : ∀ j, (Instr.lookup 119 (.map (some m)) (.agg #[.int .i64 (f ((r - 2) * 3)), .int .i64 (f ((r - 2) * 3 + 1)), .int .i64 (f ((r - 2) * 3 + 2))]) false).run Try.prog (w1.drewN j) = .ok (.int .i64 (un (ndl n f) lf (r - 2) : Nat)) (w1.drewN j) := fun j => hm1.look hs hL hn hk (w1.drewN j) rfl
      obtain ⟨x0, x1, x2⟩ := hX.trio
      obtain ⟨u0, u1, u2⟩ := hT1.trio
      by_cases hu1 : un (ndl n f) lf (r - 2) = r
      · rw [hu1] at LK
        obtain ⟨hown1, hnot⟩ := (un_iff (N := ndl n f) (lf := lf) (show 2 ≤ r by omega)).1 hu1
        have hne : ((r : Int) != (r : Int)) = false := bne_self_eq_false _
        have HV : Hid (¬ (r < 2 ∨ own (ndl n f) r = false ∨ r ∈ lf)) := Lib.hid (by
          rintro (h | h | h)
          · omega
          · rw [hown1] at h; cases h
          · exact hnot h)
        have hrn : r < (ndl n f).length + 2 := by rw [hN]; exact hr
        have hlv : L.toNat - (q + 1) ≤ (Dg.nd (ndl n f) r).1 := by rcases hu with h | h <;> omega
        obtain ⟨a1, a2⟩ := hs.shp.lo (show 2 ≤ r by omega) hrn
        obtain ⟨c1, c2⟩ := hs.shp.hi (show 2 ≤ r by omega) hrn
        have hnd : Dg.nd (ndl n f) r = ((f ((r - 2) * 3)).toNat, (f ((r - 2) * 3 + 1)).toNat, (f ((r - 2) * 3 + 2)).toNat) := by
          have := nd_ndl f hk
          rwa [show r - 2 + 2 = r by omega] at this
        obtain ⟨_, ⟨g1, _⟩, ⟨g2, _⟩, _⟩ := hs _ hk
        have k1 : f ((r - 2) * 3 + 1) = ((Dg.nd (ndl n f) r).2.1 : Nat) := by rw [hnd]; show _ = (((f ((r - 2) * 3 + 1)).toNat : Nat) : Int); omega
        have k2 : f ((r - 2) * 3 + 2) = ((Dg.nd (ndl n f) r).2.2 : Nat) := by rw [hnd]; show _ = (((f ((r - 2) * 3 + 2)).toNat : Nat) : Int); omega
        have hv1 : Tv B T m n c (some ⟨b, off, none⟩) f w0 w1 lf := ⟨hb1, ⟨v, hT1, ho1⟩, hm1⟩
        have hq1 := Dg.vs_len (ndl n f) (own (ndl n f)) q (Dg.nd (ndl n f) r).2.1 lf
        have hq2 := Dg.vs_len (ndl n f) (own (ndl n f)) q (Dg.nd (ndl n f) r).2.2 (Dg.vs (ndl n f) (own (ndl n f)) q (Dg.nd (ndl n f) r).2.1 lf)
        rw [Nat.pow_succ] at hl
        have HL2 : Hid ((Dg.vs (ndl n f) (own (ndl n f)) q (Dg.nd (ndl n f) r).2.2 (Dg.vs (ndl n f) (own (ndl n f)) q (Dg.nd (ndl n f) r).2.1 lf)).length ≤ 4000) := Lib.hid (by omega)
        have CA : Hid (∀ W, Tv B T m n c (some ⟨b, off, none⟩) f w0 W lf → _) := Lib.hid fun W h => ih (Dg.nd (ndl n f) r).2.1 lf W (by omega) (by omega) (a2.mono (by omega)) (by omega) h
        have CB : Hid (∀ W, Tv B T m n c (some ⟨b, off, none⟩) f w0 W (Dg.vs (ndl n f) (own (ndl n f)) q (Dg.nd (ndl n f) r).2.1 lf) → _) := Lib.hid fun W h => ih (Dg.nd (ndl n f) r).2.2 _ W (by omega) (by omega) (c2.mono (by omega)) (by omega) h
        obtain ⟨i0, hi, hz0, hz1, hz2⟩ := info_parts Try.infoIntDg
        rw [← k1] at CA
        rw [← k2] at CB
        clear k1 k2 hnd g1 g2 ih a2 c2 hlv hu hu1 hnot hq hq1 hq2
        go_enter Try.func86, Try.ntmps86
        go_upto_region 2 with fail
        rw [← hw1]
        clear hw1
        go_quiet (fail)
        have hX2 : Box (w1.drewN nq) w.heap.size _ _ := hX
        have hv2 : Tv B T m n c (some ⟨b, off, none⟩) f w0 (w1.drewN nq) lf := ⟨below_drewN _ hb1, ⟨v, hT1, ho1⟩, hm1⟩
        have hF2 : Frm w (w1.drewN nq) := hF1
        clear hv1 hF1 hX LK x0 x1 x2 u0 u1 u2 t0 t1 t2 hT hT1 hown ho1 hm1 hb1 hv
        generalize w1.drewN nq = w2 at hX2 hv2 hF2 ⊢
        obtain ⟨x0, x1, x2⟩ := hX2.trio
        go_upto_region 5 with (first
          | (go_at_call 86
             refine (CA.out _ hv2).mono ?_
             rintro e w3 ⟨rfl, hv3, hf3⟩
             have hX3 := hf3 _ _ hX2
             have hF3 := hF2.trans hf3
             clear x0 x1 x2 hv2 hX2 hF2 hf3
             obtain ⟨x0, x1, x2⟩ := hX3.trio)
          | (go_at_call 86
             refine (CB.out _ hv3).mono ?_
             rintro e w4 ⟨rfl, hv4, hf4⟩
             have hX4 := hf4 _ _ hX3
             have hF4 := hF3.trans hf4
             clear x0 x1 x2 hv3 hX3 hF3 hf4
             obtain ⟨x0, x1, x2⟩ := hX4.trio))
        have HVS : Hid (Dg.vs (ndl n f) (own (ndl n f)) (q + 1) r lf = _) := Lib.hid (by rw [Dg.vs_succ, if_neg HV.out])
        generalize Dg.vs (ndl n f) (own (ndl n f)) q (Dg.nd (ndl n f) r).2.2 (Dg.vs (ndl n f) (own (ndl n f)) q (Dg.nd (ndl n f) r).2.1 lf) = lf2 at hv4 HL2 HVS
        have hll : lf2.length ≤ 4000 := HL2.out
        clear CA CB HL2 HV hl
        obtain ⟨v4, hT4, hown4⟩ := hv4.box
        obtain ⟨u0, u1, u2⟩ := hT4.trio
        go_still_tail 5, (by kernel_rfl)
        change wpList _ _ _ _ _ w4.drew
        obtain ⟨w5, hrun, hm5, hg5⟩ := MapU.drop (w := w4.drew) hs hL hn (hv4.map.keep rfl) hk 0
        have hT5 : Box w5 T _ _ := grown_box hg5 (show Box w4.drew T _ _ from hT4) (by simp; omega)
        have hown5 : w5.ownsRow (T + 1) 3 1 v4 lf2.length (lf2.map fun (r : Nat) => Value.int .i64 (r : Int)) := by
          refine ⟨hown4.1, ?_⟩
          rcases hown4.2 with h | ⟨g, cap, cur, rfl, h3, h4, h5⟩
          · exact .inl h
          · exact .inr ⟨g, cap, cur, rfl, h3, (hg5.block g (heap_lt h4) (by simp; omega)).trans h4, h5⟩
        have hF5 : Frm w w5 := hF4.trans fun g cs hb => grown_box hg5 (show Box w4.drew g _ _ from hb) (by
          have := box_not_map hv4.map hb
          simpa using this)
        have hb5 : Below B w0 w5 := grown_below (w := w4.drew) hv4.bel.drew hg5 (by rintro k hk; cases hk; exact hBm) (by show B ≤ w4.heap.size; have := hT4.lt; omega)
        have hm5' : MapU w5 m n n f (un (ndl n f) (lf2 ++ [r])) := by
          obtain ⟨D, h1, h2, h3⟩ := hm5
          refine ⟨D, h1, h2, fun k hk' => ?_⟩
          rw [h3 k hk']
          dsimp only
          rw [un_leave (by omega) hrn hown1 (by rw [hN]; exact hk')]
        clear hm5 hg5 hv4 hT4 hown4 u0 u1 u2 hF4 hX4
        obtain ⟨u0, u1, u2, y0, y1, y2⟩ := hT5.three
        go_wp2_with (at_builtin; refine wpList_append_own _ rfl _ _ 49 rfl (T + 1) 3 i0 (.int .i64 0) 1 8 Try.underlying49 hi hz0 hz1 hz2 rfl (by decide) _ _ _ rfl (hown5.alloc _) ⟨w5.heap.size, 0, none⟩ 1 1 [.int .i64 (r : Nat)] rfl rfl (cell_one_new _ _ _) (by intro u hu; simp at hu; subst hu; rfl) (by unfold maxLen; omega) (by omega) (by have := hT5.lt; simp; omega) ?_)
        intro v' w7 hown' hgrow _
        have hT7 : Box w7 T _ _ := grown_box hgrow (hT5.alloc _) (own_old hown5 (Nat.lt_succ_self T))
        have hF7 : Frm w w7 := hF5.trans fun g cs hb => grown_box hgrow (hb.alloc _) (own_apart hown5 hb (by decide))
        have hb7 : Below B w0 w7 := grown_below (hb5.alloc (by have := hT5.lt; omega) _) hgrow (fun k hk => by
          have := own_old hown5 (g := k)
          by_cases hkT : k < T + 1
          · exact absurd hk.symm (this hkT)
          · omega) (by have := hT5.lt; simp; omega)
        have hm7 : MapU w7 m n n f (un (ndl n f) (lf2 ++ [r])) := (hm5'.keep (Below.heap_alloc _ _ _ hm5'.lt)).keep (hgrow.block m (by have := hm5'.lt; simp; omega) (own_old hown5 (by omega)))
        clear hT5 hF5 hb5 hm5' hgrow hown5 u0 u1 u2 y0 y1 y2
        obtain ⟨u0, u1, u2, y0, y1, y2⟩ := hT7.three
        obtain ⟨Av, nv, cv, rfl⟩ := own_slice hown'
        go_wp2_with fail
        refine bodyPost_ret (v := .tuple #[]) (by simp [results, Try.results86, go_sem]; done) rfl ?_
        refine ⟨rfl, ?_, ?_⟩
        · rw [HVS.out]
          refine ⟨hb7.setCell (p := ⟨T, 2, none⟩) hBT _, ⟨_, hT7.set 2 _, ?_⟩, hm7.keep (Below.heap_setCell _ _ _ _ (by show m ≠ T; omega))⟩
          have ho := hown'
          rw [List.length_append, List.map_append]
          refine ⟨ho.1, ?_⟩
          rcases ho.2 with h | ⟨g, cap, cur, e, h3, h4, h5⟩
          · exact .inl h
          · exact .inr ⟨g, cap, cur, e, h3, (Below.heap_setCell _ _ _ _ (by show g ≠ T; omega)).trans h4, h5⟩
        · intro g cs hb
          have h1 := hF7 g cs hb
          have hne : g ≠ T := fun e => by
            subst e
            unfold Box at h1 hT7
            rw [hT7] at h1
            injection h1 with h1
            injection h1 with _ h2
            exact absurd h2 (by decide)
          exact (Below.heap_setCell _ _ _ _ hne).trans h1
      · have hne : (((un (ndl n f) lf (r - 2) : Nat) : Int) != (r : Int)) = true := by rw [bne_iff_ne]; omega
        have HV : Hid (r < 2 ∨ own (ndl n f) r = false ∨ r ∈ lf) := Lib.hid (by
          have := mt (un_iff (N := ndl n f) (lf := lf) (show 2 ≤ r by omega)).2 hu1
          by_cases hm : r ∈ lf
          · exact .inr (.inr hm)
          · cases e : own (ndl n f) r with
            | true => exact absurd ⟨e, hm⟩ this
            | false => exact .inr (.inl rfl))
        generalize un (ndl n f) lf (r - 2) = z at LK hne hu1
        go_enter Try.func86, Try.ntmps86
        go_upto_region 2 with fail
        rw [← hw1]
        clear hw1
        go_quiet (fail)
        go_wp2_with fail
        refine bodyPost_ret (v := .tuple #[]) (by simp [results, Try.results86, go_sem]; done) rfl ⟨rfl, ?_, hF1⟩
        rw [Dg.vs_succ, if_pos HV.out]
        exact ⟨below_drewN _ hb1, ⟨v, hT1, ho1⟩, hm1⟩

end Go.Proofs.Ytamjfcckgeakfaa
