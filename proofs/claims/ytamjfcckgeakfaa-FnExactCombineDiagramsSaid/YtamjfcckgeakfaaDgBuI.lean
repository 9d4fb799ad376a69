/-
  Decision diagrams, the program: what is built.
-/
import Derived.Test.YtamjfcckgeakfaaDgBdI
import Derived.Test.YtamjfcckgeakfaaDgNoS
import Derived.Test.YtamjfcckgeakfaaDgNs
import Derived.Carry
namespace Go.Proofs.Ytamjfcckgeakfaa
open Go.RowKit Num

theorem run_store_funcI {P : Program} {w : World} {a : Addr} {m : Mode} (f : Fn) (r c : Array Value) : (store a (.func f r c) m).run P w = stored P w a (.func f r c) m := run_store P w a _ m rfl
attribute [local go_sem] run_store_funcI

/-- An answer that is a diagram. -/
def DgOneI (L : Nat) (D : Nat × List Dg.Nd) (w : World) (e : Ending) (w' : World) : Prop :=
  ∃ A1 c1, e = .returned (dgV (L : Nat) A1 D.2.length c1 (D.1 : Nat)) ∧ IntsAt w.heap.size w' A1 (D.2.length * 3) (nf D.2) ∧ Below w.heap.size w w'

set_option maxRecDepth 100000 in
set_option maxHeartbeats 6400000 in
theorem builtI_any {S : Type} [DecidableEq S] (L B0 : Nat) (c1 c2 c3 : Value) (enc : S → Int) (key : S → Lit) (B : Dg.Br S) (w0 : World)
    (ok : KeyOk 3 123 (fun s => .int .i64 (enc s)) key) (hL : L ≤ 10) (hle : ∀ s, B.lev s ≤ L) (hup : ∀ s, B.lev s < L → B.lev s < B.lev (B.lo s) ∧ B.lev s < B.lev (B.hi s)) (hval : ∀ s, L ≤ B.lev s → B.val s < 4002)
    (hbr : BrOkI B0 w0 c1 c2 c3 enc B) (s : S) (w : World) (hB0 : B0 ≤ w.heap.size) (hB : Below B0 w0 w) :
    Calls Try.prog 73 #[.int .i64 (L : Nat), .int .i64 (enc s), .func (.func 74) #[] #[c1, c2, c3]] w (DgOneI L ((Dg.mk L B (L + 1) s (fun _ => none) []).1, (Dg.mk L B (L + 1) s (fun _ => none) []).2.2) w) := by
  have hpw : 2 ^ (L + 1) ≤ 2048 := Nat.le_trans (Nat.pow_le_pow_right (by omega) (show L + 1 ≤ 11 by omega)) (by decide)
  have e0 : ∀ (W : World) (o : Obj), (W.alloc o).heap.size = W.heap.size + 1 := fun W o => by simp
  have hR := (((Box.new w 28 #[.int .i64 0, .slice none 0 0, .int .i64 0]).alloc (.map #[] 0)).alloc (.map #[] 0)).alloc (.cells #[.int .i64 (L : Nat), .func (.func 74) #[] #[c1, c2, c3], .map (some (w.heap.size + 1)), .map (some (w.heap.size + 1 + 1))] 125)
  have hK0 := KM.made (S := S) (w.alloc (.cells #[.int .i64 0, .slice none 0 0, .int .i64 0] 28)) 3 key
  have hU0 := Ut.made ((w.alloc (.cells #[.int .i64 0, .slice none 0 0, .int .i64 0] 28)).alloc (.map #[] 0))
  have hBd := Box.new (((w.alloc (.cells #[.int .i64 0, .slice none 0 0, .int .i64 0] 28)).alloc (.map #[] 0)).alloc (.map #[] 0)) 125 #[.int .i64 (L : Nat), .func (.func 74) #[] #[c1, c2, c3], .map (some (w.heap.size + 1)), .map (some (w.heap.size + 1 + 1))]
  rw [e0] at hK0
  rw [e0, e0] at hU0
  rw [e0, e0, e0] at hBd
  have hK := (hK0.keep (Below.heap_alloc _ (.map #[] 0) _ hK0.lt))
  have hK := (hK.keep (Below.heap_alloc _ (.cells #[.int .i64 (L : Nat), .func (.func 74) #[] #[c1, c2, c3], .map (some (w.heap.size + 1)), .map (some (w.heap.size + 1 + 1))] 125) _ hK.lt))
  have hU := (hU0.keep (Below.heap_alloc _ (.cells #[.int .i64 (L : Nat), .func (.func 74) #[] #[c1, c2, c3], .map (some (w.heap.size + 1)), .map (some (w.heap.size + 1 + 1))] 125) _ hU0.lt))
  have hbel := ((((Below.refl w.heap.size w).alloc (by simp <;> omega) (.cells #[.int .i64 0, .slice none 0 0, .int .i64 0] 28)).alloc (by simp <;> omega) (.map #[] 0)).alloc (by simp <;> omega) (.map #[] 0)).alloc (by simp <;> omega) (.cells #[.int .i64 (L : Nat), .func (.func 74) #[] #[c1, c2, c3], .map (some (w.heap.size + 1)), .map (some (w.heap.size + 1 + 1))] 125)
  have hB4 := hB.trans (hbel.mono hB0)
  have C := brefI_any L B0 (w.heap.size + 1) (w.heap.size + 1 + 1) c1 c2 c3 enc key B w0 ok hL hle hup hval hbr (by omega) (by omega) (by omega) (L + 1) s (fun _ => none) [] 0 0 _ (by omega) (fun _ _ e => by cases e) (by simp; omega) (by omega) hK hU hB4
  obtain ⟨_, _, hlen⟩ := Dg.mk_small hval (L + 1) s (fun _ => none) [] (fun _ _ e => by cases e) (by simp; omega)
  unfold BdPostI at C
  generalize Dg.mk L B (L + 1) s (fun _ => none) [] = D at C hlen ⊢
  rw [List.length_nil] at hlen
  obtain ⟨b0, b1, b2, b3⟩ := hBd.quad
  have hs4 : ((((w.alloc (.cells #[.int .i64 0, .slice none 0 0, .int .i64 0] 28)).alloc (.map #[] 0)).alloc (.map #[] 0)).alloc (.cells #[.int .i64 (L : Nat), .func (.func 74) #[] #[c1, c2, c3], .map (some (w.heap.size + 1)), .map (some (w.heap.size + 1 + 1))] 125)).heap.size = w.heap.size + 1 + 1 + 1 + 1 := by simp
  have hmm := fun t W => run_makeMap (P := Try.prog) t W
  clear hK hU hK0 hU0 hB4 hbr hval hup hle
  go_enter Try.func73, Try.ntmps73
  go_upto_region 3 with (go_at_call 88
                         refine C.mono ?_
                         rintro e w5 ⟨rfl, ⟨cnt5, sz5, hc5, hK5⟩, hU5, ho5⟩
                         have hR5 := hR.but2 ho5 (by omega) (by omega)
                         have hB5 := hBd.but2 ho5 (by omega) (by omega)
                         have hW5 : Below w.heap.size w w5 := hbel.trans (ho5.below (by omega) (by omega) (by omega))
                         have CN := nodes_any (w.heap.size + 1 + 1) D.2.2 w5 (by omega) hU5
                         clear b0 b1 b2 b3 hR hBd hbel ho5 C hK5 hU5
                         obtain ⟨b0, b1, b2, b3⟩ := hB5.quad
                         obtain ⟨r0, r1, r2, F0, F1, F2⟩ := hR5.three)
  clear hmm
  have hs5 := hW5.size
  go_wp2_with (go_at_call 89
               refine CN.mono ?_
               rintro e w6 ⟨A6, c6, rfl, hI6, hb6⟩
               have hR6 := hR5.below hb6 hR5.lt
               have HW6 := Lib.hid (hW5.trans (hb6.mono hs5))
               have HI6 := Lib.hid hI6
               have hgt : w.heap.size < w5.heap.size := hR5.lt
               clear b0 b1 b2 b3 hR5 hB5 hW5 hb6 hI6 CN r0 r1 r2 F0 F1 F2
               obtain ⟨r0, r1, r2, F0, F1, F2⟩ := hR6.three)
  obtain ⟨k0, k1, k2⟩ := (hR6.dgPut (.int .i64 (L : Nat)) (.slice A6 D.2.2.length c6) (.int .i64 (D.1 : Nat))).trio
  refine bodyPost_ret (v := dgV (L : Nat) A6 D.2.2.length c6 (D.1 : Nat)) (by simp [results, Try.results73, go_sem, k0, k1, k2]; done) rfl ?_
  exact ⟨A6, c6, rfl, (((HI6.out.keep (keeps_set (p := ⟨w.heap.size, 0, none⟩) hgt _)).keep (keeps_set (p := ⟨w.heap.size, 1, none⟩) hgt _)).keep (keeps_set (p := ⟨w.heap.size, 2, none⟩) hgt _)).low (by omega), ((HW6.out.setCell (p := ⟨w.heap.size, 0, none⟩) (by show w.heap.size ≤ w.heap.size; omega) _).setCell (p := ⟨w.heap.size, 1, none⟩) (by show w.heap.size ≤ w.heap.size; omega) _).setCell (p := ⟨w.heap.size, 2, none⟩) (by show w.heap.size ≤ w.heap.size; omega) _⟩

end Go.Proofs.Ytamjfcckgeakfaa
