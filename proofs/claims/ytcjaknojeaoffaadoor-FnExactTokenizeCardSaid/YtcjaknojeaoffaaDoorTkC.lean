/-
  The tokens of a text: mathematics; the program's pieces.
-/
import Derived.Test.YtcjaknojeaoffaaDoorTkB
import Derived.Maps.AppendAt
import Derived.OwnWalk
import Derived.Laws.AppendOwn
namespace Go.Proofs.YtcjaknojeaoffaaDoor
open Go.RowKit Num

/-- Byte k of a text, and the one ahead of it (a blank at the start). -/
def bt (s : ByteArray) (k : Nat) : Int := ((s.data.toList.getD k 0).toNat : Int)
def la (s : ByteArray) (k : Nat) : Int := if k = 0 then 32 else bt s (k - 1)
theorem bt_at {s : ByteArray} {k : Nat} (h : k < s.size) : bt s k = ((s[k]'h).toNat : Int) := by
  have h1 := byte_at h
  rw [bt, List.getD, h1]
  rfl
theorem bt_nonneg (s : ByteArray) (k : Nat) : 0 ≤ bt s k ∧ bt s k < 256 := by
  have := (s.data.toList.getD k 0).toNat_lt
  rw [bt]
  omega

/-- A piece that is no separator is one more token. -/
def pushT (ts : List ByteArray) (p : ByteArray) : List ByteArray := if p.data.toList.all (fun b => b == 32 || b == 10) = true then ts else ts ++ [p]
/-- Where the piece under way begins, and the tokens ahead of it, behind k bytes. -/
def stT (s : ByteArray) : Nat → Nat × List ByteArray
  | 0 => (0, [])
  | k + 1 => if tg (la s k) (bt s k) = true then stT s k else (k, pushT (stT s k).2 (s.extract (stT s k).1 k))
/-- The tokens of the first k bytes, if a piece ends there. -/
def finT (s : ByteArray) (k : Nat) : List ByteArray := pushT (stT s k).2 (s.extract (stT s k).1 k)

theorem stT_join {s : ByteArray} {k : Nat} (h : tg (la s k) (bt s k) = true) : stT s (k + 1) = stT s k := by rw [stT, if_pos h]
theorem stT_cut {s : ByteArray} {k : Nat} (h : tg (la s k) (bt s k) = false) : stT s (k + 1) = (k, finT s k) := by rw [stT, if_neg (by rw [h]; simp)]; rfl
theorem stT_le (s : ByteArray) : ∀ k, (stT s k).1 ≤ k
  | 0 => Nat.le_refl _
  | k + 1 => by
    rw [stT]
    split
    · have := stT_le s k; omega
    · show k ≤ k + 1; omega
theorem pushT_len (ts : List ByteArray) (p : ByteArray) : (pushT ts p).length ≤ ts.length + 1 := by
  rw [pushT]
  split
  · omega
  · simp
theorem stT_len (s : ByteArray) : ∀ k, (stT s k).2.length ≤ k
  | 0 => Nat.le_refl _
  | k + 1 => by
    have := stT_len s k
    rw [stT]
    split
    · omega
    · exact Nat.le_trans (pushT_len _ _) (by omega)

/-- A byte that may stand in a text. -/
def okB (x : Int) : Bool := isW x || inSet x
theorem okB_low {x : Int} (h : okB x = true) : x < 128 := by
  rw [okB, Bool.or_eq_true] at h
  rcases h with h | h
  · simp [isW] at h; omega
  · rw [inSet, Bool.and_eq_true] at h
    exact of_decide_eq_true h.1
/-- A text that has tokens. -/
def okT (s : ByteArray) : Bool := decide (s.size ≤ 6000) && (List.range s.size).all (fun k => okB (bt s k))
theorem okT_iff (s : ByteArray) : okT s = true ↔ s.size ≤ 6000 ∧ ∀ k, k < s.size → okB (bt s k) = true := by
  rw [okT, Bool.and_eq_true, decide_eq_true_iff, List.all_eq_true]
  exact ⟨fun ⟨a, b⟩ => ⟨a, fun k hk => b k (List.mem_range.2 hk)⟩, fun ⟨a, b⟩ => ⟨a, fun k hk => b k (List.mem_range.1 hk)⟩⟩
/-- The tokens of a text. -/
def resT (s : ByteArray) : List ByteArray := if okT s = true then finT s s.size else []

/-- Texts as values. -/
def strV (ts : List ByteArray) : List Value := ts.map Value.string

/-- What both sides answer. -/
def TkPost (s : ByteArray) (w : World) (e : Ending) (w' : World) : Prop :=
  (∃ v, e = .returned (.tuple #[v, .bool (okT s)]) ∧ w'.ownsRow w.heap.size 9 1 v (resT s).length (strV (resT s))) ∧ Below w.heap.size w w'

theorem trimSp_nil (p : ByteArray) : Lib.trimS p.data.toList [32, 10] = [] ↔ p.data.toList.all (fun b => b == 32 || b == 10) = true := by
  rw [trimS_nil, List.all_eq_true]
  constructor
  · intro h x hx
    have := h x hx
    simpa using this
  · intro h x hx
    have := h x hx
    simpa using this

theorem trimSp_any (s : ByteArray) (w : World) (hs : s.size ≤ 9223372036854775807) :
    Calls Tryd.prog 24 #[.string s, .string ⟨#[32, 10]⟩] w fun e w' => e = .returned (.string ⟨(Lib.trimS s.data.toList [32, 10]).toArray⟩) ∧ Below w.heap.size w w' :=
  Any.strings_Trim_laid Tryd.lays160 (by kernel_rfl) s ⟨#[32, 10]⟩ w hs (by decide) (ascii_of_all (by decide))

theorem own_belowT {w w' : World} {B base size : Nat} {e : TypeId} {v : Value} {n : Nat} {xs : List Value} (h : w.ownsRow base e size v n xs) (hb : Below B w w') (hB : w.heap.size ≤ B) : w'.ownsRow base e size v n xs := by
  refine ⟨h.1, ?_⟩
  rcases h.2 with h2 | ⟨b, cap, cur, rfl, h3, h4, h5⟩
  · exact .inl h2
  · exact .inr ⟨b, cap, cur, rfl, h3, (hb.block b (Nat.lt_of_lt_of_le (heap_lt h4) hB)).trans h4, h5⟩

theorem below_grownT {B : Nat} {w wr w1 : World} {o : Obj} {v : Value} {base : Nat} {e : TypeId} {n : Nat} {xs : List Value} (hbel : Below B w wr) (hB : B ≤ wr.heap.size) (hbase : B ≤ base) (hown : wr.ownsRow base e 1 v n xs) (hgrow : (wr.alloc o).grownBy w1 v.ownBlock) : Below B w w1 :=
  (hbel.alloc hB o).grown hgrow (by simp; omega) fun k hk => by
    rcases hown.2 with ⟨rfl, _⟩ | ⟨g, _, _, rfl, h3, _⟩
    · simp [Value.ownBlock] at hk
    · obtain rfl : g = k := by simpa [Value.ownBlock] using hk
      omega

theorem Tryd.infoStrT : (Tryd.prog.info? 9).map (fun i => (i.zero, i.size, i.bytes)) = some (some (.string ⟨#[]⟩), 1, 16) := by kernel_rfl

set_option maxRecDepth 100000 in
set_option maxHeartbeats 3200000 in
theorem appTok_any (base : Nat) (v : Value) (ts : List ByteArray) (p : ByteArray) (w : World) (hp : p.size ≤ 1048576) (ht : ts.length ≤ 1048576) (hbase : base ≤ w.heap.size) (hown : w.ownsRow base 9 1 v ts.length (strV ts)) :
    Calls Tryd.prog 37 #[v, .string p] w fun e w' => (∃ v', e = .returned v' ∧ w'.ownsRow base 9 1 v' (pushT ts p).length (strV (pushT ts p))) ∧ Below base w w' := by
  obtain ⟨i0, hi, hz0, hz1, hz2⟩ := info_parts Tryd.infoStrT
  have C1 := Lib.hid (trimSp_any p w (by omega))
  have C2 : Hid (∀ W, _) := Lib.hid fun W => clone_any p W (by omega)
  cases ha : p.data.toList.all (fun b => b == 32 || b == 10) with
  | true =>
    rw [(trimSp_nil p).2 ha] at C1
    have HP : Hid (pushT ts p = ts) := Lib.hid (by rw [pushT, if_pos ha])
    clear ha
    go_enter Tryd.func37, Tryd.ntmps37
    go_wp2_with (go_at_call 24; refine C1.out.mono ?_; rintro e w1 ⟨rfl, hb1⟩)
    go_ret
    exact ⟨⟨v, rfl, by rw [HP.out]; exact own_belowT hown hb1 (Nat.le_refl _)⟩, hb1.mono hbase⟩
  | false =>
    obtain ⟨a, b, hab⟩ := List.exists_cons_of_ne_nil (show Lib.trimS p.data.toList [32, 10] ≠ [] from fun h => by rw [(trimSp_nil p).1 h] at ha; cases ha)
    rw [hab] at C1
    have HP : Hid (pushT ts p = ts ++ [p]) := Lib.hid (by rw [pushT, if_neg (by rw [ha]; simp)])
    clear ha hab
    go_enter Tryd.func37, Tryd.ntmps37
    go_wp2_with (first
      | (go_at_call 24; refine C1.out.mono ?_; rintro e w1 ⟨rfl, hb1⟩)
      | (go_at_call 15; refine (C2.out _).mono ?_; rintro e w2 ⟨rfl, hb2⟩; have hB := (hb1.mono hbase).trans (hb2.mono (Nat.le_trans hbase hb1.size)); have hown2 := own_belowT (own_belowT hown hb1 (Nat.le_refl _)) hb2 (Nat.le_refl _))
      | (at_builtin; refine wpList_append_own _ rfl _ _ 25 rfl base 9 i0 (.string ⟨#[]⟩) 1 16 Tryd.underlying25 hi hz0 hz1 hz2 rfl (by decide) _ _ _ rfl (hown2.alloc _) ⟨w2.heap.size, 0, none⟩ 1 1 [.string p] rfl rfl (cell_one_new _ _ _) (by intro u hu; simp at hu; subst hu; rfl) (by unfold maxLen; omega) (by omega) (by have := hB.size; simp; omega) ?_))
    intro v' w3 hown' hgrow _
    have hB3 := below_grownT hB (Nat.le_trans hbase hB.size) (Nat.le_refl _) hown2 hgrow
    clear hgrow
    go_wp2_with fail
    go_ret
    exact ⟨⟨v', rfl, by rw [HP.out, strV, List.map_append, List.length_append]; exact hown'⟩, hB3⟩

end Go.Proofs.YtcjaknojeaoffaaDoor
