/-
  Decision diagrams, the program: restricted, RestrictDiagram.
-/
import Derived.Test.YtamjfcckgeakfaaDgRs
import Derived.Test.YtamjfcckgeakfaaDgBc
import Derived.Maps.RangeWalk
namespace Go.Proofs.Ytamjfcckgeakfaa
open Go.RowKit Num

/-- The diagram of a restriction. -/
def rsD (Ln v : Nat) (val : Bool) (rn n : Nat) (f : Nat → Int) : Nat × List Dg.Nd := Dg.bld (fun j => Dg.evT (ndl n f) Ln rn (Dg.fx (Ln - 1 - v) val j)) Ln Ln 0 []

theorem rfOk {N : List Dg.Nd} (hN : N.length ≤ 1048576) : KeyOk 3 123 (fun s : Dg.Rf N => Value.int .i64 ((s.1 : Nat) : Int)) (fun s : Dg.Rf N => Lit.int .i64 ((s.1 : Nat) : Int)) where
  keyed := Maps.int_keyed Try.underlying3
  map := by kernel_rfl
  of s := Maps.keyOf_int_mk Try.underlying3 (WalkArith.wf_i64 (by have := s.2; omega))
  inj s t e := by
    simp only [Lit.int.injEq, true_and] at e
    exact Subtype.ext (by omega)

theorem lvl_le {L : Nat} {N : List Dg.Nd} (hs : Dg.Shp L N) {r : Nat} (hr : r < N.length + 2) : Dg.lvl N L r ≤ L := by
  unfold Dg.lvl
  split
  · exact Nat.le_refl _
  · exact Nat.le_of_lt (hs.lv (by omega) hr)

set_option maxRecDepth 100000 in
set_option maxHeartbeats 6400000 in
theorem restricted_any (lo Ln v : Nat) (val : Bool) (rn n c : Nat) (A0 : Option Addr) (f : Nat → Int) (w : World) (hs : ShpI (Ln : Int) n f) (hL : Ln ≤ 10) (hn : n ≤ 1048576) (hr : rn < n + 2) (hv : v < Ln) (h0 : IntsAt lo w A0 (n * 3) f) :
    Calls Try.prog 47 #[dgV (Ln : Nat) A0 n c (rn : Nat), .int .i64 (v : Nat), .bool val] w (DgOneI Ln (rsD Ln v val rn n f) w) := by
  have hlen : (ndl n f).length = n := ndl_len n f
  have hsh : Dg.Shp Ln (ndl n f) := by have := hs.shp; rwa [Int.toNat_natCast] at this
  have e0 : ∀ (W : World) (o : Obj), (W.alloc o).heap.size = W.heap.size + 1 := fun W o => by simp
  have hd := (((Box.new w 28 #[.int .i64 (Ln : Nat), .slice A0 n c, .int .i64 (rn : Nat)]).alloc (.cells #[.int .i64 (v : Nat)] 3)).alloc (.cells #[.bool val] 4)).alloc (.cells #[.int .i64 0, .slice none 0 0, .int .i64 0] 28)
  have hv1 := ((Box.new (w.alloc (.cells #[.int .i64 (Ln : Nat), .slice A0 n c, .int .i64 (rn : Nat)] 28)) 3 #[.int .i64 (v : Nat)]).alloc (.cells #[.bool val] 4)).alloc (.cells #[.int .i64 0, .slice none 0 0, .int .i64 0] 28)
  have hb1 := (Box.new ((w.alloc (.cells #[.int .i64 (Ln : Nat), .slice A0 n c, .int .i64 (rn : Nat)] 28)).alloc (.cells #[.int .i64 (v : Nat)] 3)) 4 #[.bool val]).alloc (.cells #[.int .i64 0, .slice none 0 0, .int .i64 0] 28)
  have hR := Box.new (((w.alloc (.cells #[.int .i64 (Ln : Nat), .slice A0 n c, .int .i64 (rn : Nat)] 28)).alloc (.cells #[.int .i64 (v : Nat)] 3)).alloc (.cells #[.bool val] 4)) 28 #[.int .i64 0, .slice none 0 0, .int .i64 0]
  rw [e0] at hv1
  rw [e0, e0] at hb1
  rw [e0, e0, e0] at hR
  have hB := ((((Below.refl w.heap.size w).alloc (Nat.le_refl _) (.cells #[.int .i64 (Ln : Nat), .slice A0 n c, .int .i64 (rn : Nat)] 28)).alloc (by simp) (.cells #[.int .i64 (v : Nat)] 3)).alloc (by simp; omega) (.cells #[.bool val] 4)).alloc (by simp; omega) (.cells #[.int .i64 0, .slice none 0 0, .int .i64 0] 28)
  have hsz : ((((w.alloc (.cells #[.int .i64 (Ln : Nat), .slice A0 n c, .int .i64 (rn : Nat)] 28)).alloc (.cells #[.int .i64 (v : Nat)] 3)).alloc (.cells #[.bool val] 4)).alloc (.cells #[.int .i64 0, .slice none 0 0, .int .i64 0] 28)).heap.size = w.heap.size + 1 + 1 + 1 + 1 := by simp
  obtain ⟨q0, q1, q2⟩ := hd.trio
  obtain ⟨r0, r1, r2, F0, F1, F2⟩ := hR.three
  have C : Calls Try.prog 73 _ _ _ := builtI_any Ln (w.heap.size + 1 + 1 + 1 + 1) (.pointer (some ⟨w.heap.size, 0, none⟩)) (.pointer (some ⟨w.heap.size + 1, 0, none⟩)) (.pointer (some ⟨w.heap.size + 1 + 1, 0, none⟩)) (fun s : Dg.Rf (ndl n f) => ((s.1 : Nat) : Int)) _ (Dg.rsB hsh v val) _ (rfOk (by omega)) hL
    (fun s => lvl_le hsh (Dg.ch_lt hsh s.2))
    (fun s hl => by
      have hc := Dg.ch_lt (l := v) (b := val) hsh s.2
      have h2 : 2 ≤ Dg.ch (ndl n f) s.1 v val := by
        rcases Nat.lt_or_ge (Dg.ch (ndl n f) s.1 v val) 2 with h | h
        · have e : (Dg.rsB hsh v val).lev s = Ln := by show Dg.lvl _ Ln _ = Ln; unfold Dg.lvl; rw [if_pos h]
          omega
        · exact h
      have elv : Dg.lvl (ndl n f) Ln (Dg.ch (ndl n f) s.1 v val) = (Dg.nd (ndl n f) (Dg.ch (ndl n f) s.1 v val)).1 := by unfold Dg.lvl; rw [if_neg (by omega)]
      constructor
      · show Dg.lvl _ _ _ < Dg.lvl (ndl n f) Ln (Dg.ch (ndl n f) (Dg.ch (ndl n f) (Dg.ch (ndl n f) s.1 v val) (Dg.lvl (ndl n f) Ln (Dg.ch (ndl n f) s.1 v val)) false) v val)
        rw [elv]
        exact Nat.lt_of_lt_of_le (Dg.ch_next hsh h2 hc false) (Dg.ch_lvl hsh (Dg.ch_lt hsh hc) v val)
      · show Dg.lvl _ _ _ < Dg.lvl (ndl n f) Ln (Dg.ch (ndl n f) (Dg.ch (ndl n f) (Dg.ch (ndl n f) s.1 v val) (Dg.lvl (ndl n f) Ln (Dg.ch (ndl n f) s.1 v val)) true) v val)
        rw [elv]
        exact Nat.lt_of_lt_of_le (Dg.ch_next hsh h2 hc true) (Dg.ch_lvl hsh (Dg.ch_lt hsh hc) v val))
    (fun s hl => by
      have h2 := Dg.lvl_top hsh (Dg.ch_lt (l := v) (b := val) hsh s.2) hl
      show Dg.ch (ndl n f) s.1 v val < 4002
      omega)
    (fun s W hW => rs1_any lo Ln w.heap.size (w.heap.size + 1) (w.heap.size + 1 + 1) v val (rn : Nat) n c A0 f hs hL hn hsh s W (hd.below hW (by omega)) (hv1.below hW (by omega)) (hb1.below hW (by omega)) ((h0.below hB (Nat.le_refl _)).below hW (by rw [hsz]; exact Nat.le_refl _)))
    ⟨rn, by omega⟩ _ (by rw [hsz]; exact Nat.le_refl _) (Below.refl _ _)
  rw [← Dg.rs_all hsh v hv val ⟨rn, by omega⟩] at C
  rw [show Dg.bld (fun j => Dg.evT (ndl n f) Ln rn (Dg.fx (Ln - 1 - v) val j)) Ln Ln 0 [] = rsD Ln v val rn n f from rfl] at C
  dsimp only at C
  generalize rsD Ln v val rn n f = D at C ⊢
  have HB := Lib.hid hB
  clear hd hv1 hb1 hB hs hsh h0 hlen
  go_enter Try.func47, Try.ntmps47
  go_wp2_with (go_at_call 73
               refine C.mono ?_
               rintro e w5 ⟨A5, c5, rfl, hI5, hb5⟩
               have hR5 := hR.below hb5 hR.lt
               have HI5 := Lib.hid hI5
               have HB5 := Lib.hid (HB.out.trans (hb5.mono HB.out.size))
               clear q0 q1 q2 r0 r1 r2 F0 F1 F2 hR hb5 hI5 C
               obtain ⟨r0, r1, r2, F0, F1, F2⟩ := hR5.three)
  have hgt : w.heap.size + 1 + 1 + 1 < w5.heap.size := hR5.lt
  obtain ⟨k0, k1, k2⟩ := (hR5.dgPut (.int .i64 (Ln : Nat)) (.slice A5 D.2.length c5) (.int .i64 (D.1 : Nat))).trio
  refine bodyPost_ret (v := dgV (Ln : Nat) A5 D.2.length c5 (D.1 : Nat)) (by simp [results, Try.results47, go_sem, k0, k1, k2]; done) rfl ?_
  have hk := fun (u : Nat) (W : World) (v : Value) => keeps_set (lo := w.heap.size + 1 + 1 + 1 + 1) (W := W) (p := ⟨w.heap.size + 1 + 1 + 1, u, none⟩) (Nat.lt_succ_self _) v
  refine ⟨A5, c5, rfl, ?_, ?_⟩
  · rw [hsz] at HI5
    exact (((HI5.out.keep (hk 0 _ _)).keep (hk 1 _ _)).keep (hk 2 _ _)).low (by omega)
  · exact ((HB5.out.setCell (p := ⟨w.heap.size + 1 + 1 + 1, 0, none⟩) (by show w.heap.size ≤ w.heap.size + 1 + 1 + 1; omega) _).setCell (p := ⟨w.heap.size + 1 + 1 + 1, 1, none⟩) (by show w.heap.size ≤ w.heap.size + 1 + 1 + 1; omega) _).setCell (p := ⟨w.heap.size + 1 + 1 + 1, 2, none⟩) (by show w.heap.size ≤ w.heap.size + 1 + 1 + 1; omega) _

end Go.Proofs.Ytamjfcckgeakfaa
