/-
  NegateDiagram: the model.
-/
import Derived.Test.YtamjfcckgeakfaaDgJ
import Derived.Test.YtamjfcckgeakfaaDgV
namespace Go.Proofs.Ytamjfcckgeakfaa
open Go.RowKit Num

/-- The table of the negation. -/
noncomputable def ngT (L ro : Int) (n : Nat) (f : Nat → Int) : Nat → Bool := fun j => opB 3 (Dg.ev (ndl n f) L.toNat L.toNat ro.toNat j) true
noncomputable def ngD (L ro : Int) (n : Nat) (f : Nat → Int) : Nat × List Dg.Nd := Dg.bld (ngT L ro n f) L.toNat L.toNat 0 []
noncomputable def ngL (L ro : Int) (n : Nat) (f : Nat → Int) : Int := if vaB L ro n f then L else 0
noncomputable def ngR (L ro : Int) (n : Nat) (f : Nat → Int) : Int := if vaB L ro n f then (((ngD L ro n f).1 : Nat) : Int) else 0
noncomputable def ngN (L ro : Int) (n : Nat) (f : Nat → Int) : Nat := if vaB L ro n f then (ngD L ro n f).2.length else 0

theorem Box.dgPut {W : World} {G : Nat} {t : TypeId} {a b d : Value} (h : Box W G t #[a, b, d]) (x y z : Value) : Box (((W.setCell ⟨G, 0, none⟩ x).setCell ⟨G, 1, none⟩ y).setCell ⟨G, 2, none⟩ z) G t #[x, y, z] := by
  have := ((h.set 0 x).set 1 y).set 2 z
  simpa using this

theorem keeps_set {lo : Nat} {W : World} {p : Addr} (h : p.block < lo) (v : Value) : Keeps lo W (W.setCell p v) :=
  ⟨by simp [World.setCell], fun b h1 _ => by
    have hne : p.block ≠ b := by omega
    simp [World.setCell, Array.getElem?_modify, hne]⟩

/-- What the last region keeps. -/
structure NgK (L : Int) (A0 : Option Addr) (n c : Nat) (ro : Int) (M G : Nat) (w W : World) : Prop where
  bP : Box W w.heap.size 28 #[.int .i64 L, .slice A0 n c, .int .i64 ro]
  bR : ∃ a b d, Box W (w.heap.size + 1) 28 #[a, b, d]
  tab : TabU (fun _ => true) M G M w W

section
variable {L : Int} {A0 : Option Addr} {n c : Nat} {ro : Int} {M G : Nat} {w W W' : World}
theorem NgK.by (hb : Below W.heap.size W W') (h : NgK L A0 n c ro M G w W) : NgK L A0 n c ro M G w W' :=
  ⟨h.bP.below hb h.bP.lt, (let ⟨a, b, d, k⟩ := h.bR; ⟨a, b, d, k.below hb k.lt⟩), h.tab.by hb⟩
theorem NgK.drew (h : NgK L A0 n c ro M G w W) : NgK L A0 n c ro M G w W.drew := ⟨h.bP, h.bR, h.tab.drew⟩
theorem NgK.put (h : NgK L A0 n c ro M G w W) (hG : w.heap.size + 1 < G) (x y z : Value) : NgK L A0 n c ro M G w (((W.setCell ⟨w.heap.size + 1, 0, none⟩ x).setCell ⟨w.heap.size + 1, 1, none⟩ y).setCell ⟨w.heap.size + 1, 2, none⟩ z) :=
  ⟨((h.bP.far3 (show w.heap.size + 1 ≠ w.heap.size by omega) 0 x).far3 (show w.heap.size + 1 ≠ w.heap.size by omega) 1 y).far3 (show w.heap.size + 1 ≠ w.heap.size by omega) 2 z,
    (let ⟨_, _, _, k⟩ := h.bR; ⟨x, y, z, k.dgPut x y z⟩),
    ⟨(let ⟨cs, a, b, d⟩ := h.tab.tab; ⟨cs, ((a.far3 (show w.heap.size + 1 ≠ G by omega) 0 x).far3 (show w.heap.size + 1 ≠ G by omega) 1 y).far3 (show w.heap.size + 1 ≠ G by omega) 2 z, b, d⟩),
      ((h.tab.bel.setCell (p := ⟨w.heap.size + 1, 0, none⟩) (Nat.le_succ _) x).setCell (p := ⟨w.heap.size + 1, 1, none⟩) (Nat.le_succ _) y).setCell (p := ⟨w.heap.size + 1, 2, none⟩) (Nat.le_succ _) z⟩⟩
theorem NgK.all (h : NgK L A0 n c ro M G w W) : W.cell? ⟨w.heap.size, 0, none⟩ = some (.int .i64 L) ∧
    W.cell? ⟨w.heap.size + 1, 0, none⟩ = some (cellW W ⟨w.heap.size + 1, 0, none⟩) ∧ W.cell? ⟨w.heap.size + 1, 1, none⟩ = some (cellW W ⟨w.heap.size + 1, 1, none⟩) ∧ W.cell? ⟨w.heap.size + 1, 2, none⟩ = some (cellW W ⟨w.heap.size + 1, 2, none⟩) ∧
    W.frozen? ⟨w.heap.size + 1, 0, none⟩ = false ∧ W.frozen? ⟨w.heap.size + 1, 1, none⟩ = false ∧ W.frozen? ⟨w.heap.size + 1, 2, none⟩ = false ∧
    (convert 43 9 (.slice (some ⟨G, 0, none⟩) M M)).run Try.prog W = .ok (.string (tbS (fun _ => true) M)) W ∧ NgK L A0 n c ro M G w W := by
  obtain ⟨a, b, d, k⟩ := h.bR
  obtain ⟨k0, k1, k2⟩ := k.trio
  exact ⟨h.bP.cell 0, by unfold cellW; rw [k0]; rfl, by unfold cellW; rw [k1]; rfl, by unfold cellW; rw [k2]; rfl, k.free 0, k.free 1, k.free 2, h.tab.text, h⟩
end

theorem held8n {p0 p1 p2 p3 p4 p5 p6 p7 K : Prop} (h : p0 ∧ p1 ∧ p2 ∧ p3 ∧ p4 ∧ p5 ∧ p6 ∧ p7 ∧ K) : K := h.2.2.2.2.2.2.2.2

set_option maxRecDepth 100000 in
set_option maxHeartbeats 6400000 in
theorem specNg_any (lo : Nat) (L ro : Int) (n c : Nat) (A0 : Option Addr) (f : Nat → Int) (w : World) (hn : n ≤ 1048576) (h0 : IntsAt lo w A0 (n * 3) f) :
    Calls Try.prog 18 #[dgV L A0 n c ro] w (DgPost (ngL L ro n f) (ngR L ro n f) (ngN L ro n f) (nf (ngD L ro n f).2) (vaB L ro n f) w) := by
  have hP := (Box.new w 28 #[.int .i64 L, .slice A0 n c, .int .i64 ro]).alloc (.cells #[.int .i64 0, .slice none 0 0, .int .i64 0] 28)
  have hB := ((Below.refl w.heap.size w).alloc (Nat.le_refl _) (.cells #[.int .i64 L, .slice A0 n c, .int .i64 ro] 28)).alloc (by simp) (.cells #[.int .i64 0, .slice none 0 0, .int .i64 0] 28)
  have hR := Box.new (w.alloc (.cells #[.int .i64 L, .slice A0 n c, .int .i64 ro] 28)) 28 #[.int .i64 0, .slice none 0 0, .int .i64 0]
  rw [show (w.alloc (.cells #[.int .i64 L, .slice A0 n c, .int .i64 ro] 28)).heap.size = w.heap.size + 1 by simp] at hR
  obtain ⟨q0, q1, q2⟩ := hP.trio
  obtain ⟨r0, r1, r2⟩ := hR.trio
  have H0 := Lib.hid h0; clear h0
  have CG : Hid (∀ W, Below w.heap.size w W → _) := Lib.hid fun W hW => specGdE_any lo L ro n c A0 f W hn (H0.out.below hW (Nat.le_refl _))
  unfold ngL ngR ngN
  cases hv : vaB L ro n f with
  | false =>
    rw [hv] at CG
    rw [if_neg (by simp), if_neg (by simp), if_neg (by simp)]
    clear hv
    have F0 := hR.free 0
    have F1 := hR.free 1
    have F2 := hR.free 2
    go_enter Try.func18, Try.ntmps18
    go_upto_region 2 with (go_at_call 39; refine (CG.out _ hB).mono ?_; rintro e w1 ⟨rfl, hb⟩; clear q0 q1 q2 r0 r1 r2 F0 F1 F2; replace hR := hR.below hb hR.lt; replace hB := hB.trans (hb.mono hB.size); clear hb; obtain ⟨r0, r1, r2⟩ := hR.trio; have F0 := hR.free 0; have F1 := hR.free 1; have F2 := hR.free 2)
    go_wp2_with fail
    have hR2 := hR.dgPut (.int .i64 0) (.slice none 0 0) (.int .i64 0)
    obtain ⟨k0, k1, k2⟩ := hR2.trio
    refine bodyPost_ret (v := .tuple #[dgV 0 none 0 0 0, .bool false]) (by simp [results, Try.results18, go_sem, k0, k1, k2]; done) rfl ?_
    exact ⟨none, 0, rfl, fun h0 => absurd h0 (by omega), ((hB.setCell (p := ⟨w.heap.size + 1, 0, none⟩) (Nat.le_succ _) _).setCell (p := ⟨w.heap.size + 1, 1, none⟩) (Nat.le_succ _) _).setCell (p := ⟨w.heap.size + 1, 2, none⟩) (Nat.le_succ _) _⟩
  | true =>
    rw [hv] at CG
    rw [if_pos rfl, if_pos rfl, if_pos rfl]
    have hvd := (vd_iff L ro n f).1 ((vaB_iff L ro n f).1 hv)
    obtain ⟨⟨hL, h4, hro, hs⟩, _⟩ := hvd
    have er : ((ro.toNat : Nat) : Int) = ro := by omega
    have CT : Hid (∀ W, Below w.heap.size w W → _) := Lib.hid fun W hW => specTable_any lo L ro.toNat n c A0 f W hs hL.1 hL.2 hn (by omega) (H0.out.below hW (Nat.le_refl _))
    have hpw : 2 ^ L.toNat ≤ 1024 := Nat.le_trans (Nat.pow_le_pow_right (by omega) (show L.toNat ≤ 10 by omega)) (by decide)
    rw [er] at CT
    have CJ : Hid (∀ W, _) := Lib.hid fun W => specJoin_any 3 (Dg.ev (ndl n f) L.toNat L.toNat ro.toNat) (fun _ => true) (2 ^ L.toNat) W hpw
    have CO : Hid (∀ W, _) := Lib.hid fun W => specOf_any (ngT L ro n f) L W hL.1 hL.2
    rw [show (fun j => opB 3 (Dg.ev (ndl n f) L.toNat L.toNat ro.toNat j) ((fun _ => true) j)) = ngT L ro n f from rfl] at CJ
    rw [show Dg.bld (ngT L ro n f) L.toNat L.toNat 0 [] = ngD L ro n f from rfl] at CO
    have hmk := mk_bytes (2 ^ L.toNat) (by omega)
    generalize Dg.ev (ndl n f) L.toNat L.toNat ro.toNat = T at CT CJ
    generalize ngD L ro n f = D at CO ⊢
    generalize ngT L ro n f = V at CO CJ
    generalize 2 ^ L.toNat = M at CT CJ CO hpw hmk
    have hsz := tbS_size T M
    generalize tbS T M = S at CT CJ hsz
    subst hsz
    clear hv er hs h4 hro
    go_enter Try.func18, Try.ntmps18
    go_upto_region 4 with (first
      | (go_at_call 39
         refine (CG.out _ hB).mono ?_
         rintro e w1 ⟨rfl, hb⟩
         clear q0 q1 q2 r0 r1 r2
         replace hP := hP.below hb hP.lt
         replace hR := hR.below hb hR.lt
         replace hB := hB.trans (hb.mono hB.size)
         clear hb
         obtain ⟨q0, q1, q2⟩ := hP.trio)
      | (go_at_call 43
         refine (CT.out _ hB).mono ?_
         rintro e w2 ⟨rfl, hb⟩
         clear q0 q1 q2
         replace hP := hP.below hb hP.lt
         replace hR := hR.below hb hR.lt
         replace hB := hB.trans (hb.mono hB.size)
         clear hb
         obtain ⟨q0, q1, q2⟩ := hP.trio))
    have hG := Box.new w2 5 (madeCells #[.int .u8 0] S.size)
    have hgt : w.heap.size + 1 < w2.heap.size := hR.lt
    replace hP := hP.alloc (.cells (madeCells #[.int .u8 0] S.size) 5)
    replace hR := hR.alloc (.cells (madeCells #[.int .u8 0] S.size) 5)
    replace hB := hB.alloc hB.size (.cells (madeCells #[.int .u8 0] S.size) 5)
    go_wp2_with fail
    clear hmk q0 q1 q2 CG CT
    generalize hW : World.alloc _ _ = W0 at hP hR hB hG ⊢
    clear hW
    generalize w2.heap.size = G at hG hgt ⊢
    have hK : TabU (fun _ => true) S.size G 0 w W0 := ⟨⟨_, hG, size_madeCells _ _, fun j h => by omega⟩, hB⟩
    clear hB hG
    go_loopg [18] S.size (fun q iv wr => ∃ k : Nat, k + q = S.size ∧ iv = .int .i64 (k : Nat) ∧ TabU (fun _ => true) S.size G k w wr ∧ Box wr w.heap.size 28 #[.int .i64 L, .slice A0 n c, .int .i64 ro] ∧ Box wr (w.heap.size + 1) 28 #[.int .i64 0, .slice none 0 0, .int .i64 0])
    case atStart => exact ⟨0, by omega, rfl, hK, hP, hR⟩
    case round =>
      clear hK hP hR
      obtain ⟨k, hk, rfl, hK, hP, hR⟩ := hrel
      by_cases hk0 : k < S.size
      · obtain ⟨g0, gf, _⟩ := hK.all hk0
        go_wp2_with fail
        go_roundg (gk - 1)
        case rel => exact ⟨k + 1, by omega, by go_num, hK.next (by omega) hk0 _ rfl, hP.far3 (show G ≠ w.heap.size by omega) k _, hR.far3 (show G ≠ w.heap.size + 1 by omega) k _⟩
        case measure => omega
      · obtain rfl : k = S.size := by omega
        have HK : Hid (NgK L A0 n c ro S.size G w wr) := Lib.hid ⟨hP, ⟨_, _, _, hR⟩, hK⟩
        clear hK hP hR
        obtain ⟨q0, r0, r1, r2, F0, F1, F2, hcv, _⟩ := HK.out.all
        go_upto_region 10 with fail
        go_region_held3 (fun w' => w'.cell? ⟨w.heap.size, 0, none⟩ = some (.int .i64 L) ∧
            w'.cell? ⟨w.heap.size + 1, 0, none⟩ = some (cellW w' ⟨w.heap.size + 1, 0, none⟩) ∧ w'.cell? ⟨w.heap.size + 1, 1, none⟩ = some (cellW w' ⟨w.heap.size + 1, 1, none⟩) ∧ w'.cell? ⟨w.heap.size + 1, 2, none⟩ = some (cellW w' ⟨w.heap.size + 1, 2, none⟩) ∧
            w'.frozen? ⟨w.heap.size + 1, 0, none⟩ = false ∧ w'.frozen? ⟨w.heap.size + 1, 1, none⟩ = false ∧ w'.frozen? ⟨w.heap.size + 1, 2, none⟩ = false ∧
            (convert 43 9 (.slice (some ⟨G, 0, none⟩) S.size S.size)).run Try.prog w' = .ok (.string (tbS (fun _ => true) S.size)) w' ∧ NgK L A0 n c ro S.size G w w')
          ((refine NgK.all ?_; first | exact HK.out.drew | exact held8n (by assumption) | exact NgK.by (by assumption) (held8n (by assumption)) | exact NgK.put (held8n (by assumption)) hgt _ _ _))
          (first
            | (go_at_call 51; with_reducible refine (CJ.out _).mono ?_; rintro e w3 ⟨rfl, hb3⟩)
            | (go_at_call 41; with_reducible refine (CO.out _).mono ?_; rintro e w4 ⟨⟨A4, c4, rfl, hA4⟩, hb4⟩; have HA4 := Lib.hid hA4; clear hA4))
        go_wp2_with fail
        have K3 := NgK.by hb3 HK.out.drew
        obtain ⟨_, _, _, k3⟩ := K3.bR
        have hl3 : w.heap.size + 1 < w3.heap.size := k3.lt
        have K4 := NgK.by hb4 K3
        obtain ⟨_, _, _, kR⟩ := K4.bR
        obtain ⟨k0, k1, k2⟩ := (kR.dgPut (.int .i64 L) (.slice A4 D.2.length c4) (.int .i64 (D.1 : Nat))).trio
        refine bodyPost_ret (v := .tuple #[dgV L A4 D.2.length c4 (D.1 : Nat), .bool true]) (by simp [results, Try.results18, go_sem, k0, k1, k2]; done) rfl ?_
        exact ⟨A4, c4, rfl, (((HA4.out.keep (keeps_set (p := ⟨w.heap.size + 1, 0, none⟩) hl3 _)).keep (keeps_set (p := ⟨w.heap.size + 1, 1, none⟩) hl3 _)).keep (keeps_set (p := ⟨w.heap.size + 1, 2, none⟩) hl3 _)).low (by omega), (K4.put hgt _ _ _).tab.bel⟩

end Go.Proofs.Ytamjfcckgeakfaa
