/-
  The model's rational number as a Rat: lowest terms, two numerals, the limit.
-/
import Derived.Test.YtdjldhkmcmbiiaaDoorIntQ
import Derived.Deep.RegionHeld3
import Derived.Deep.DeepCutAuto
namespace Go.Proofs.YtdjldhkmcmbiiaaDoor
open Go.RowKit Num

/-- The numeral of n. -/
def dec (n : Nat) : ByteArray := ⟨(decL n).toArray⟩

theorem dec_size (n : Nat) : (dec n).size = (decL n).length := by simp [dec, ByteArray.size]

/-- No Rat, false. -/
def noRat : Value := .tuple #[.agg #[.bool false, .string ⟨#[]⟩, .string ⟨#[]⟩], .bool false]
/-- The Rat and true. -/
def okRat (neg : Bool) (n d : Nat) : Value := .tuple #[.agg #[.bool neg, .string (dec n), .string (dec d)], .bool true]
/-- Both numerals meet the limit. -/
def fits (n d : Nat) : Bool := decide ((decL n).length ≤ 120) && decide ((decL d).length ≤ 120)
/-- What a fraction in lowest terms is handed back as. -/
def ratRes (neg : Bool) (n d : Nat) : Value := if fits n d = true then okRat neg n d else noRat

theorem text_dec (v : Value) (x : Nat) (w : World) (hv : Nums 3 .i64 10000 w v x) (hlx : ln 10000 x ≤ 1099511627776) :
    Calls Tryd.prog 61 #[v] w fun e w' => e = .returned (.string (dec x)) ∧ Below w.heap.size w w' := text_any v x w hv hlx

theorem lowest_as (neg : Bool) (vn vd : Value) (n d : Nat) (sg : Bool) (N D : Nat) (w : World) (hn : Nums 3 .i64 10000 w vn n) (hd : Nums 3 .i64 10000 w vd d) (h0 : 0 < d) (hln : ln 10000 n ≤ 549755813888) (hld : ln 10000 d ≤ 549755813888) (hsg : sg = (neg && decide (0 < n))) (hN : N = n / Nat.gcd n d) (hD : D = d / Nat.gcd n d) :
    Calls Tryd.prog 84 #[.agg #[.bool neg, vn, vd]] w fun e w' => (∃ v, e = .returned v ∧ IsQ w' v sg N D) ∧ Below w.heap.size w w' := by
  subst hsg hN hD
  exact lowest_any neg vn vd n d w hn hd h0 hln hld

/-- The cells of one struct, and that nothing older has turned: what the region of the two texts holds on to. -/
theorem hold3 {W w' : World} {G : Nat} {t : TypeId} {a b c : Value} (h : Box W G t #[a, b, c]) (hb : Below W.heap.size W w') : w'.cell? ⟨G, 0, none⟩ = some a ∧ w'.cell? ⟨G, 1, none⟩ = some b ∧ w'.cell? ⟨G, 2, none⟩ = some c ∧ Below W.heap.size W w' := by
  obtain ⟨h1, h2, h3, _⟩ := (h.below hb h.lt).three
  exact ⟨h1, h2, h3, hb⟩

theorem hold3_below {W w' : World} {a b c : Prop} (h : a ∧ b ∧ c ∧ Below W.heap.size W w') : Below W.heap.size W w' := h.2.2.2
theorem below_step {W w1 w2 : World} (h : Below W.heap.size W w1) (k : Below w1.heap.size w1 w2) : Below W.heap.size W w2 := h.trans (k.mono h.size)
theorem new_kept {w w1 : World} {t : TypeId} {cs : Array Value} (hb : Below (w.alloc (.cells cs t)).heap.size (w.alloc (.cells cs t)) w1) : Box w1 w.heap.size t cs :=
  Box.below (Box.new w t cs) hb (by simp)
theorem below_realloc {W w1 : World} {o : Obj} (o' : Obj) (h : Below W.heap.size W (w1.alloc o)) (hs : W.heap.size ≤ w1.heap.size) : Below W.heap.size W (w1.alloc o') :=
  ⟨h.os, h.tape, h.output, by have := h.size; simp at this ⊢; omega, fun k hk => by
    have h1 := h.block k hk
    rw [Below.heap_alloc w1 o k (by omega)] at h1
    rw [Below.heap_alloc w1 o' k (by omega)]
    exact h1⟩
theorem below_put {W w1 : World} (h : Below W.heap.size W w1) {g : Nat} (hg : W.heap.size ≤ g) (x y z : Value) : Below W.heap.size W (((w1.setCell ⟨g, 0, none⟩ x).setCell ⟨g, 1, none⟩ y).setCell ⟨g, 2, none⟩ z) := below_put3 h hg x y z
theorem below_new {W w1 : World} (h : Below W.heap.size W w1) (o : Obj) : Below W.heap.size W (w1.alloc o) := h.alloc h.size o

set_option maxRecDepth 100000 in
set_option maxHeartbeats 1600000 in
theorem rat_low (neg : Bool) (vn vd : Value) (n d : Nat) (sg : Bool) (N D : Nat) (w : World) (hn : Nums 3 .i64 10000 w vn n) (hd : Nums 3 .i64 10000 w vd d) (h0 : 0 < d) (hln : ln 10000 n ≤ 549755813888) (hld : ln 10000 d ≤ 549755813888) (hsg : sg = (neg && decide (0 < n))) (hN : N = n / Nat.gcd n d) (hD : D = d / Nat.gcd n d) :
    Calls Tryd.prog 42 #[.agg #[.bool neg, vn, vd]] w fun e w' => e = .returned (ratRes sg N D) ∧ Below w.heap.size w w' := by
  have Hn := Lib.hid hn; clear hn
  have Hd := Lib.hid hd; clear hd
  have hlN : ln 10000 N ≤ 1099511627776 := Nat.le_trans (ln_mono _ _ _ (by omega) (by rw [hN]; exact Nat.div_le_self _ _)) (by omega)
  have hlD : ln 10000 D ≤ 1099511627776 := Nat.le_trans (ln_mono _ _ _ (by omega) (by rw [hD]; exact Nat.div_le_self _ _)) (by omega)
  have Hsg := Lib.hid hsg; clear hsg
  have HN := Lib.hid hN; clear hN
  have HD := Lib.hid hD; clear hD
  have hR0 := Box.new (w.alloc (.cells #[.bool neg, vn, vd] 53)) 26 #[.bool false, .string ⟨#[]⟩, .string ⟨#[]⟩]
  rw [show (w.alloc (.cells #[.bool neg, vn, vd] 53)).heap.size = w.heap.size + 1 from by simp] at hR0
  go_enter Tryd.func42, Tryd.ntmps42
  go_wp2_with (go_at_call 84; refine (lowest_as neg vn vd n d sg N D _ (Hn.out.below (((Below.refl _ w).alloc (Nat.le_refl _) _).alloc (by simp) _) (Nat.le_refl _)) (Hd.out.below (((Below.refl _ w).alloc (Nat.le_refl _) _).alloc (by simp) _) (Nat.le_refl _)) h0 hln hld Hsg.out HN.out HD.out).mono ?_; rintro e w1 ⟨⟨v, rfl, vn1, vd1, rfl, hn1, hd1⟩, hb1⟩; have hx1 := hR0.below hb1 (by simp <;> omega); have hz1 := two_size hb1; have hb2 := (((Below.refl _ w).alloc (Nat.le_refl _) _).alloc (by simp) _).trans (hb1.mono (by simp <;> omega)); obtain ⟨An, cn, rfl, _, _, _⟩ := RowF.open hn1; obtain ⟨Ad, cd, rfl, _, _, _⟩ := RowF.open hd1)
  have hG := Box.new w1 53 #[.bool sg, .slice An (ln 10000 N) cn, .slice Ad (ln 10000 D) cd]
  have hbW := (Below.refl w1.heap.size w1).alloc (Nat.le_refl _) (.cells #[.bool sg, .slice An (ln 10000 N) cn, .slice Ad (ln 10000 D) cd] 53)
  have hnW := hn1.below hbW (Nat.le_refl _)
  have hdW := hd1.below hbW (Nat.le_refl _)
  have hxW := hx1.below hbW hx1.lt
  have hb3 := hb2.trans (hbW.mono (by omega))
  obtain ⟨G, hGe⟩ : ∃ G, G = w1.heap.size := ⟨_, rfl⟩
  rw [← hGe] at hG ⊢
  have hgG : w.heap.size + 2 ≤ G := by omega
  obtain ⟨W, hW⟩ : ∃ W, W = w1.alloc (.cells #[.bool sg, .slice An (ln 10000 N) cn, .slice Ad (ln 10000 D) cd] 53) := ⟨_, rfl⟩
  rw [← hW] at hG hnW hdW hxW hb3 ⊢
  clear hW hbW hn1 hd1 hx1 hb1 hb2 hR0 hGe hz1
  have hGW := hG.lt
  go_cut [5] (fun s5 wx => ∃ H : Nat, s5 = .pointer (some ⟨H, 0, none⟩) ∧ W.heap.size ≤ H ∧ Below W.heap.size W wx ∧ Box wx H 26 #[.bool sg, .string (dec N), .string (dec D)])
  case first =>
    go_region_held3 (fun w' => w'.cell? ⟨G, 0, none⟩ = some (.bool sg) ∧ w'.cell? ⟨G, 1, none⟩ = some (.slice An (ln 10000 N) cn) ∧ w'.cell? ⟨G, 2, none⟩ = some (.slice Ad (ln 10000 D) cd) ∧ Below W.heap.size W w')
      ((refine hold3 hG ?_; first | exact (Below.refl _ W).drew | (refine below_step (hold3_below (by assumption)) ?_; assumption) | (refine below_new (hold3_below (by assumption)) _) | (refine below_realloc _ (hold3_below (by assumption)) ?_; have h1 := hb1.size; have h2 := hb2.size; simp at h1 h2; omega) | (refine below_put (hold3_below (by assumption)) ?_ _ _ _; (try (have h1 := hb1.size; simp at h1)); (try (have h2 := hb2.size; simp at h2)); omega)))
      (first
        | (go_at_call_of 61 (Value.slice An (ln 10000 N) cn); refine (text_dec _ N _ (hnW.below (hold3_below (by assumption)) (Nat.le_refl _)) hlN).mono ?_; rintro e w1 ⟨rfl, hb1⟩; (first | (have hz1 := built_drew hb1) | (have hz1 := new_kept hb1) | (have hz1 := hz2.below hb1 hz2.lt) | skip); (try obtain ⟨z10, z11, z12, y10, y11, y12⟩ := hz1.three))
        | (go_at_call_of 61 (Value.slice Ad (ln 10000 D) cd); refine (text_dec _ D _ (hdW.below (hold3_below (by assumption)) (Nat.le_refl _)) hlD).mono ?_; rintro e w2 ⟨rfl, hb2⟩; (first | (have hz2 := built_drew hb2) | (have hz2 := new_kept hb2) | (have hz2 := hz1.below hb2 hz1.lt) | skip); (try obtain ⟨z20, z21, z22, y20, y21, y22⟩ := hz2.three)))
    all_goals go_wp2_with fail
    all_goals go_meet
    all_goals refine ⟨_, rfl, ?_, hold3_below (by assumption), ?_⟩
    all_goals first
      | exact Nat.le_refl _
      | exact hb1.size
      | exact hb2.size
      | exact Nat.le_trans hb1.size hb2.size
      | exact Nat.le_trans hb2.size hb1.size
      | exact Box.new _ _ _
      | exact (((hz2.set 0 _).set 1 _).set 2 _)
      | exact (((hz1.set 0 _).set 1 _).set 2 _)
  case rest =>
    obtain ⟨H, rfl, hH, hbc, hbox⟩ := hcut
    obtain ⟨c0, c1, c2, _, _, _⟩ := hbox.three
    have hxc := hxW.below hbc hxW.lt
    obtain ⟨r0, r1, r2, f0, f1, f2⟩ := hxc.three
    by_cases h1 : (dec N).size ≤ 120
    · by_cases h2 : (dec D).size ≤ 120
      · go_wp2_with fail
        obtain ⟨k0, k1, k2⟩ := hxc.put3 (.bool sg) (.string (dec N)) (.string (dec D))
        refine bodyPost_ret (v := okRat sg N D) (by simp [results, Tryd.results42, go_sem, k0, k1, k2, okRat]) rfl ?_
        exact ⟨by rw [ratRes, if_pos (by have e1 := dec_size N; have e2 := dec_size D; simp [fits]; omega)], below_put3 (hb3.trans (hbc.mono hb3.size)) (by omega) _ _ _⟩
      · go_wp2_with fail
        obtain ⟨k0, k1, k2⟩ := hxc.put3 (.bool false) (.string ⟨#[]⟩) (.string ⟨#[]⟩)
        refine bodyPost_ret (v := noRat) (by simp [results, Tryd.results42, go_sem, k0, k1, k2, noRat]) rfl ?_
        exact ⟨by rw [ratRes, if_neg (by have e1 := dec_size N; have e2 := dec_size D; simp [fits]; omega)], below_put3 (hb3.trans (hbc.mono hb3.size)) (by omega) _ _ _⟩
    · go_wp2_with fail
      obtain ⟨k0, k1, k2⟩ := hxc.put3 (.bool false) (.string ⟨#[]⟩) (.string ⟨#[]⟩)
      refine bodyPost_ret (v := noRat) (by simp [results, Tryd.results42, go_sem, k0, k1, k2, noRat]) rfl ?_
      exact ⟨by rw [ratRes, if_neg (by have e1 := dec_size N; have e2 := dec_size D; simp [fits]; omega)], below_put3 (hb3.trans (hbc.mono hb3.size)) (by omega) _ _ _⟩

end Go.Proofs.YtdjldhkmcmbiiaaDoor
