/-
  Programs: what the cells of a program read as, and what of it stays when only newer blocks turn.
-/
import Derived.Test.YtamjfcckgeakfaaExprs3
namespace Go.Proofs.Ytamjfcckgeakfaa
open Go.RowKit Num

/-- From w to w' the blocks from lo on stay as they are. -/
def Keeps (lo : Nat) (w w' : World) : Prop := w.heap.size ≤ w'.heap.size ∧ ∀ b, lo ≤ b → b < w.heap.size → w'.heap[b]? = w.heap[b]?

theorem Keeps.of_below {lo B : Nat} {w w' : World} (hb : Below B w w') (hB : w.heap.size ≤ B) : Keeps lo w w' := ⟨hb.size, fun b _ h => hb.block b (Nat.lt_of_lt_of_le h hB)⟩
theorem Keeps.set {lo : Nat} (w : World) {H : Nat} (h : H < lo) (i : Nat) (v : Value) : Keeps lo w (w.setCell ⟨H, i, none⟩ v) :=
  ⟨by simp [World.setCell], fun b hb _ => Below.heap_setCell w ⟨H, i, none⟩ v b (by show b ≠ H; omega)⟩
theorem Keeps.trans {lo : Nat} {a b c : World} (h : Keeps lo a b) (k : Keeps lo b c) : Keeps lo a c :=
  ⟨Nat.le_trans h.1 k.1, fun x hx hlt => (k.2 x hx (Nat.lt_of_lt_of_le hlt h.1)).trans (h.2 x hx hlt)⟩
theorem Keeps.refl (lo : Nat) (w : World) : Keeps lo w w := ⟨Nat.le_refl _, fun _ _ _ => rfl⟩
theorem Keeps.mono {lo lo' : Nat} {a b : World} (h : Keeps lo a b) (hl : lo ≤ lo') : Keeps lo' a b := ⟨h.1, fun x hx => h.2 x (Nat.le_trans hl hx)⟩

/-- The block stands, is not older than lo, and may be written (if lo is more than 0, so that arguments are left out). -/
structure Stand (lo : Nat) (w : World) (b : Nat) : Prop where
  ge : lo ≤ b
  lt : b < w.heap.size
  fre : 0 < lo → ∀ i, w.frozen? ⟨b, i, none⟩ = false
theorem frozen_same {w w' : World} {b i : Nat} (h : w'.heap[b]? = w.heap[b]?) : w'.frozen? ⟨b, i, none⟩ = w.frozen? ⟨b, i, none⟩ := by simp [World.frozen?, h]
theorem Stand.keep {lo : Nat} {w w' : World} {b : Nat} (h : Stand lo w b) (k : Keeps lo w w') : Stand lo w' b :=
  ⟨h.ge, Nat.lt_of_lt_of_le h.lt k.1, fun z i => (frozen_same (k.2 b h.ge h.lt)).trans (h.fre z i)⟩
theorem Stand.low {lo lo' : Nat} {w : World} {b : Nat} (h : Stand lo w b) (hl : lo' ≤ lo) : Stand lo' w b := ⟨Nat.le_trans hl h.ge, h.lt, fun z => h.fre (Nat.lt_of_lt_of_le z hl)⟩
theorem Stand.zero {w : World} {b : Nat} (h : b < w.heap.size) : Stand 0 w b := ⟨Nat.zero_le _, h, fun z => absurd z (Nat.lt_irrefl 0)⟩

/-- n ints in a row from the address on, in a block not older than lo. -/
def IntsAt (lo : Nat) (w : World) (A : Option Addr) (n : Nat) (f : Nat → Int) : Prop :=
  0 < n → ∃ b off, A = some ⟨b, off, none⟩ ∧ Stand lo w b ∧ ∀ j, j < n → w.cell? ⟨b, off + j, none⟩ = some (.int .i64 (f j))

section
variable {lo lo' B : Nat} {w w' : World} {A : Option Addr} {n : Nat} {f : Nat → Int}
theorem IntsAt.keep (h : IntsAt lo w A n f) (k : Keeps lo w w') : IntsAt lo w' A n f := fun h0 => by
  obtain ⟨b, off, rfl, h1, h3⟩ := h h0
  exact ⟨b, off, rfl, h1.keep k, fun j hj => (World.cell?_of_block (a := ⟨b, off + j, none⟩) (k.2 b h1.ge h1.lt)).trans (h3 j hj)⟩
theorem IntsAt.low (h : IntsAt lo w A n f) (hl : lo' ≤ lo) : IntsAt lo' w A n f := fun h0 => by
  obtain ⟨b, off, rfl, h1, h3⟩ := h h0
  exact ⟨b, off, rfl, h1.low hl, h3⟩
theorem IntsAt.below (h : IntsAt lo w A n f) (hb : Below B w w') (hB : w.heap.size ≤ B) : IntsAt lo w' A n f := h.keep (.of_below hb hB)
theorem IntsAt.at_ (h : IntsAt lo w A n f) {j : Nat} (hj : j < n) :
    ∃ b off, A = some ⟨b, off, none⟩ ∧ b < w.heap.size ∧ w.cell? ⟨b, off + j, none⟩ = some (.int .i64 (f j)) := by
  obtain ⟨b, off, rfl, h1, h2⟩ := h (by omega)
  exact ⟨b, off, rfl, h1.2, h2 j hj⟩
end

theorem IntsAt.of_box {lo : Nat} {w : World} {G : Nat} {t : TypeId} {cs : Array Value} {n : Nat} {f : Nat → Int} (hl : lo ≤ G) (h : Box w G t cs) (hf : ∀ j, j < n → cs[j]? = some (.int .i64 (f j))) : IntsAt lo w (some ⟨G, 0, none⟩) n f :=
  fun _ => ⟨G, 0, rfl, ⟨hl, h.lt, fun _ => h.free⟩, fun j hj => by rw [Nat.zero_add, h.cell]; exact hf j hj⟩

/-- n structs of k cells in a row from the address on, in a block not older than lo; R says what the cells of struct j are. -/
def Arr (lo k : Nat) (R : World → Nat → (Nat → Value) → Prop) (w : World) (A : Option Addr) (n : Nat) : Prop :=
  0 < n → ∃ b off, A = some ⟨b, off, none⟩ ∧ Stand lo w b ∧ ∀ j, j < n → ∃ C : Nat → Value, R w j C ∧ ∀ c, c < k → w.cell? ⟨b, off + (j * k + c), none⟩ = some (C c)

/-- What R says stays when the blocks from lo on stay. -/
def Stays (lo : Nat) (R : World → Nat → (Nat → Value) → Prop) : Prop := ∀ (w w' : World) (j : Nat) (C : Nat → Value), R w j C → Keeps lo w w' → R w' j C

section
variable {lo lo' k B : Nat} {R R' : World → Nat → (Nat → Value) → Prop} {w w' : World} {A : Option Addr} {n : Nat}
theorem Arr.keep (hR : Stays lo R) (h : Arr lo k R w A n) (hk : Keeps lo w w') : Arr lo k R w' A n := fun h0 => by
  obtain ⟨b, off, rfl, h1, h2⟩ := h h0
  refine ⟨b, off, rfl, h1.keep hk, fun j hj => ?_⟩
  obtain ⟨C, hC, hc⟩ := h2 j hj
  exact ⟨C, hR _ _ _ _ hC hk, fun c hc' => (World.cell?_of_block (a := ⟨b, off + (j * k + c), none⟩) (hk.2 b h1.1 h1.2)).trans (hc c hc')⟩
theorem Arr.low (hR : ∀ j C, R w j C → R' w j C) (h : Arr lo k R w A n) (hl : lo' ≤ lo) : Arr lo' k R' w A n := fun h0 => by
  obtain ⟨b, off, rfl, h1, h2⟩ := h h0
  refine ⟨b, off, rfl, h1.low hl, fun j hj => ?_⟩
  obtain ⟨C, hC, hc⟩ := h2 j hj
  exact ⟨C, hR _ _ hC, hc⟩
end

theorem Arr.of_box {lo k : Nat} {R : World → Nat → (Nat → Value) → Prop} {w : World} {G n : Nat} {t : TypeId} {cs : Array Value} (hl : lo ≤ G) (h : Box w G t cs) (hf : ∀ j, j < n → ∃ C : Nat → Value, R w j C ∧ ∀ c, c < k → cs[j * k + c]? = some (C c)) : Arr lo k R w (some ⟨G, 0, none⟩) n :=
  fun _ => ⟨G, 0, rfl, ⟨hl, h.lt, fun _ => h.free⟩, fun j hj => by
    obtain ⟨C, hC, hc⟩ := hf j hj
    exact ⟨C, hC, fun c hc' => by rw [Nat.zero_add, h.cell]; exact hc c hc'⟩⟩

theorem Arr.two {lo : Nat} {R : World → Nat → (Nat → Value) → Prop} {w : World} {A : Option Addr} {n : Nat} (h : Arr lo 2 R w A n) {j : Nat} (hj : j < n) :
    ∃ b off C, A = some ⟨b, off, none⟩ ∧ b < w.heap.size ∧ R w j C ∧ w.cell? ⟨b, off + j * 2, none⟩ = some (C 0) ∧ w.cell? ⟨b, off + j * 2 + 1, none⟩ = some (C 1) := by
  obtain ⟨b, off, rfl, h1, h2⟩ := h (by omega)
  obtain ⟨C, hC, hc⟩ := h2 j hj
  exact ⟨b, off, C, rfl, h1.2, hC, hc 0 (by omega), hc 1 (by omega)⟩

theorem Arr.eight {lo : Nat} {R : World → Nat → (Nat → Value) → Prop} {w : World} {A : Option Addr} {n : Nat} (h : Arr lo 8 R w A n) {j : Nat} (hj : j < n) :
    ∃ b off C, A = some ⟨b, off, none⟩ ∧ b < w.heap.size ∧ R w j C ∧ w.cell? ⟨b, off + j * 8, none⟩ = some (C 0) ∧ w.cell? ⟨b, off + j * 8 + 1, none⟩ = some (C 1) ∧ w.cell? ⟨b, off + j * 8 + 2, none⟩ = some (C 2) ∧ w.cell? ⟨b, off + j * 8 + 3, none⟩ = some (C 3) ∧
      w.cell? ⟨b, off + j * 8 + 4, none⟩ = some (C 4) ∧ w.cell? ⟨b, off + j * 8 + 5, none⟩ = some (C 5) ∧ w.cell? ⟨b, off + j * 8 + 6, none⟩ = some (C 6) ∧ w.cell? ⟨b, off + j * 8 + 7, none⟩ = some (C 7) := by
  obtain ⟨b, off, rfl, h1, h2⟩ := h (by omega)
  obtain ⟨C, hC, hc⟩ := h2 j hj
  exact ⟨b, off, C, rfl, h1.2, hC, hc 0 (by omega), hc 1 (by omega), hc 2 (by omega), hc 3 (by omega), hc 4 (by omega), hc 5 (by omega), hc 6 (by omega), hc 7 (by omega)⟩

/-- Expressions in a block not older than lo. -/
def ExL (lo : Nat) (w : World) (A : Option Addr) (n : Nat) (F : Nat → Nat → Int) : Prop := ExAt w A n F ∧ (0 < n → ∀ b off, A = some ⟨b, off, none⟩ → Stand lo w b)

section
variable {lo lo' B : Nat} {w w' : World} {A : Option Addr} {n : Nat} {F : Nat → Nat → Int}
theorem ExL.keep (h : ExL lo w A n F) (k : Keeps lo w w') : ExL lo w' A n F := ⟨fun h0 => by
  obtain ⟨b, off, rfl, h2, h3⟩ := h.1 h0
  have h1 := h.2 h0 b off rfl
  exact ⟨b, off, rfl, Nat.lt_of_lt_of_le h2 k.1, fun j hj c hc => (World.cell?_of_block (a := ⟨b, off + (j * 4 + c), none⟩) (k.2 b h1.ge h2)).trans (h3 j hj c hc)⟩, fun h0 b off e => (h.2 h0 b off e).keep k⟩
theorem ExL.low (h : ExL lo w A n F) (hl : lo' ≤ lo) : ExL lo' w A n F := ⟨h.1, fun h0 b off e => (h.2 h0 b off e).low hl⟩
theorem ExL.below (h : ExL lo w A n F) (hb : Below B w w') (hB : w.heap.size ≤ B) : ExL lo w' A n F := h.keep (.of_below hb hB)
end

/-- A statement. -/
structure Stm where
  kind : Int
  var : Int
  ex : Int
  nc : Nat
  ch : Nat → Int × Int
  nt : Nat
  th : Nat → Int
  ne : Nat
  el : Nat → Int
  times : Int
  proc : Int

/-- A program. -/
structure Prg where
  nv : Nat
  vn : Nat → ByteArray
  vz : Nat → Int
  nx : Nat
  ex : Nat → Nat → Int
  ns : Nat
  st : Nat → Stm
  np : Nat
  pn : Nat → ByteArray
  pl : Nat → Nat
  pb : Nat → Nat → Int
  nb : Nat
  bd : Nat → Int
  fuel : Int

/-- A choice's cells. -/
def ChR (ch : Nat → Int × Int) (_ : World) (j : Nat) (C : Nat → Value) : Prop := C 0 = .int .i64 (ch j).1 ∧ C 1 = .int .i64 (ch j).2
/-- A variable's cells. -/
def VrR (vn : Nat → ByteArray) (vz : Nat → Int) (_ : World) (j : Nat) (C : Nat → Value) : Prop := C 0 = .string (vn j) ∧ C 1 = .int .i64 (vz j)
/-- A procedure's cells. -/
def PrR (lo : Nat) (pn : Nat → ByteArray) (pl : Nat → Nat) (pb : Nat → Nat → Int) (w : World) (j : Nat) (C : Nat → Value) : Prop := C 0 = .string (pn j) ∧ ∃ A c, C 1 = .slice A (pl j) c ∧ IntsAt lo w A (pl j) (pb j)

def ChAt (lo : Nat) (w : World) (A : Option Addr) (n : Nat) (ch : Nat → Int × Int) : Prop := Arr lo 2 (ChR ch) w A n
def VrAt (lo : Nat) (w : World) (A : Option Addr) (n : Nat) (vn : Nat → ByteArray) (vz : Nat → Int) : Prop := Arr lo 2 (VrR vn vz) w A n
def PrAt (lo : Nat) (w : World) (A : Option Addr) (n : Nat) (pn : Nat → ByteArray) (pl : Nat → Nat) (pb : Nat → Nat → Int) : Prop := Arr lo 2 (PrR lo pn pl pb) w A n

/-- A statement's cells. -/
def StR (lo : Nat) (st : Nat → Stm) (w : World) (j : Nat) (C : Nat → Value) : Prop :=
  C 0 = .int .i64 (st j).kind ∧ C 1 = .int .i64 (st j).var ∧ C 2 = .int .i64 (st j).ex ∧ (∃ A c, C 3 = .slice A (st j).nc c ∧ ChAt lo w A (st j).nc (st j).ch) ∧
    (∃ A c, C 4 = .slice A (st j).nt c ∧ IntsAt lo w A (st j).nt (st j).th) ∧ (∃ A c, C 5 = .slice A (st j).ne c ∧ IntsAt lo w A (st j).ne (st j).el) ∧ C 6 = .int .i64 (st j).times ∧ C 7 = .int .i64 (st j).proc
def StAt (lo : Nat) (w : World) (A : Option Addr) (n : Nat) (st : Nat → Stm) : Prop := Arr lo 8 (StR lo st) w A n

theorem ChR.stays (lo : Nat) (ch : Nat → Int × Int) : Stays lo (ChR ch) := fun _ _ _ _ h _ => h
theorem VrR.stays (lo : Nat) (vn : Nat → ByteArray) (vz : Nat → Int) : Stays lo (VrR vn vz) := fun _ _ _ _ h _ => h
theorem PrR.stays (lo : Nat) (pn : Nat → ByteArray) (pl : Nat → Nat) (pb : Nat → Nat → Int) : Stays lo (PrR lo pn pl pb) := fun _ _ _ _ h hk => by
  obtain ⟨h0, A, c, h1, h2⟩ := h
  exact ⟨h0, A, c, h1, h2.keep hk⟩

section
variable {lo lo' B : Nat} {w w' : World} {A : Option Addr} {n : Nat}
theorem ChAt.keep {ch : Nat → Int × Int} (h : ChAt lo w A n ch) (hk : Keeps lo w w') : ChAt lo w' A n ch := Arr.keep (ChR.stays lo ch) h hk
theorem VrAt.keep {vn : Nat → ByteArray} {vz : Nat → Int} (h : VrAt lo w A n vn vz) (hk : Keeps lo w w') : VrAt lo w' A n vn vz := Arr.keep (VrR.stays lo vn vz) h hk
theorem PrAt.keep {pn : Nat → ByteArray} {pl : Nat → Nat} {pb : Nat → Nat → Int} (h : PrAt lo w A n pn pl pb) (hk : Keeps lo w w') : PrAt lo w' A n pn pl pb := Arr.keep (PrR.stays lo pn pl pb) h hk
theorem ChAt.below {ch : Nat → Int × Int} (h : ChAt lo w A n ch) (hb : Below B w w') (hB : w.heap.size ≤ B) : ChAt lo w' A n ch := h.keep (.of_below hb hB)
theorem VrAt.below {vn : Nat → ByteArray} {vz : Nat → Int} (h : VrAt lo w A n vn vz) (hb : Below B w w') (hB : w.heap.size ≤ B) : VrAt lo w' A n vn vz := h.keep (.of_below hb hB)
theorem PrAt.below {pn : Nat → ByteArray} {pl : Nat → Nat} {pb : Nat → Nat → Int} (h : PrAt lo w A n pn pl pb) (hb : Below B w w') (hB : w.heap.size ≤ B) : PrAt lo w' A n pn pl pb := h.keep (.of_below hb hB)
theorem ChAt.low {ch : Nat → Int × Int} (h : ChAt lo w A n ch) (hl : lo' ≤ lo) : ChAt lo' w A n ch := Arr.low (fun _ _ h => h) h hl
theorem VrAt.low {vn : Nat → ByteArray} {vz : Nat → Int} (h : VrAt lo w A n vn vz) (hl : lo' ≤ lo) : VrAt lo' w A n vn vz := Arr.low (fun _ _ h => h) h hl
theorem PrAt.low {pn : Nat → ByteArray} {pl : Nat → Nat} {pb : Nat → Nat → Int} (h : PrAt lo w A n pn pl pb) (hl : lo' ≤ lo) : PrAt lo' w A n pn pl pb := Arr.low (fun _ _ h => by
  obtain ⟨h0, A, c, h1, h2⟩ := h
  exact ⟨h0, A, c, h1, h2.low hl⟩) h hl
end

theorem StR.stays (lo : Nat) (st : Nat → Stm) : Stays lo (StR lo st) := fun _ _ _ _ h hk => by
  obtain ⟨h0, h1, h2, ⟨A3, c3, h3, g3⟩, ⟨A4, c4, h4, g4⟩, ⟨A5, c5, h5, g5⟩, h6, h7⟩ := h
  exact ⟨h0, h1, h2, ⟨A3, c3, h3, g3.keep hk⟩, ⟨A4, c4, h4, g4.keep hk⟩, ⟨A5, c5, h5, g5.keep hk⟩, h6, h7⟩

section
variable {lo lo' B : Nat} {w w' : World} {A : Option Addr} {n : Nat} {st : Nat → Stm}
theorem StAt.keep (h : StAt lo w A n st) (hk : Keeps lo w w') : StAt lo w' A n st := Arr.keep (StR.stays lo st) h hk
theorem StAt.below (h : StAt lo w A n st) (hb : Below B w w') (hB : w.heap.size ≤ B) : StAt lo w' A n st := h.keep (.of_below hb hB)
theorem StAt.low (h : StAt lo w A n st) (hl : lo' ≤ lo) : StAt lo' w A n st := Arr.low (fun _ _ h => by
  obtain ⟨h0, h1, h2, ⟨A3, c3, h3, g3⟩, ⟨A4, c4, h4, g4⟩, ⟨A5, c5, h5, g5⟩, h6, h7⟩ := h
  exact ⟨h0, h1, h2, ⟨A3, c3, h3, g3.low hl⟩, ⟨A4, c4, h4, g4.low hl⟩, ⟨A5, c5, h5, g5.low hl⟩, h6, h7⟩) h hl
end

section
variable {lo : Nat} {w : World} {A : Option Addr} {n j : Nat}
theorem ChAt.at_ {ch : Nat → Int × Int} (h : ChAt lo w A n ch) (hj : j < n) : ∃ b off, A = some ⟨b, off, none⟩ ∧ b < w.heap.size ∧ w.cell? ⟨b, off + j * 2, none⟩ = some (.int .i64 (ch j).1) ∧ w.cell? ⟨b, off + j * 2 + 1, none⟩ = some (.int .i64 (ch j).2) := by
  obtain ⟨b, off, C, rfl, hb, ⟨e0, e1⟩, h0, h1⟩ := Arr.two h hj
  exact ⟨b, off, rfl, hb, by rw [h0, e0], by rw [h1, e1]⟩
theorem VrAt.at_ {vn : Nat → ByteArray} {vz : Nat → Int} (h : VrAt lo w A n vn vz) (hj : j < n) : ∃ b off, A = some ⟨b, off, none⟩ ∧ b < w.heap.size ∧ w.cell? ⟨b, off + j * 2, none⟩ = some (.string (vn j)) ∧ w.cell? ⟨b, off + j * 2 + 1, none⟩ = some (.int .i64 (vz j)) := by
  obtain ⟨b, off, C, rfl, hb, ⟨e0, e1⟩, h0, h1⟩ := Arr.two h hj
  exact ⟨b, off, rfl, hb, by rw [h0, e0], by rw [h1, e1]⟩
theorem PrAt.at_ {pn : Nat → ByteArray} {pl : Nat → Nat} {pb : Nat → Nat → Int} (h : PrAt lo w A n pn pl pb) (hj : j < n) : ∃ b off A1 c1, A = some ⟨b, off, none⟩ ∧ b < w.heap.size ∧ w.cell? ⟨b, off + j * 2, none⟩ = some (.string (pn j)) ∧ w.cell? ⟨b, off + j * 2 + 1, none⟩ = some (.slice A1 (pl j) c1) ∧ IntsAt lo w A1 (pl j) (pb j) := by
  obtain ⟨b, off, C, rfl, hb, ⟨e0, A1, c1, e1, g⟩, h0, h1⟩ := Arr.two h hj
  exact ⟨b, off, A1, c1, rfl, hb, by rw [h0, e0], by rw [h1, e1], g⟩
theorem StAt.at_ {st : Nat → Stm} (h : StAt lo w A n st) (hj : j < n) : ∃ b off A3 c3 A4 c4 A5 c5, A = some ⟨b, off, none⟩ ∧ b < w.heap.size ∧ w.cell? ⟨b, off + j * 8, none⟩ = some (.int .i64 (st j).kind) ∧ w.cell? ⟨b, off + j * 8 + 1, none⟩ = some (.int .i64 (st j).var) ∧ w.cell? ⟨b, off + j * 8 + 2, none⟩ = some (.int .i64 (st j).ex) ∧
    w.cell? ⟨b, off + j * 8 + 3, none⟩ = some (.slice A3 (st j).nc c3) ∧ w.cell? ⟨b, off + j * 8 + 4, none⟩ = some (.slice A4 (st j).nt c4) ∧ w.cell? ⟨b, off + j * 8 + 5, none⟩ = some (.slice A5 (st j).ne c5) ∧
    w.cell? ⟨b, off + j * 8 + 6, none⟩ = some (.int .i64 (st j).times) ∧ w.cell? ⟨b, off + j * 8 + 7, none⟩ = some (.int .i64 (st j).proc) ∧ ChAt lo w A3 (st j).nc (st j).ch ∧ IntsAt lo w A4 (st j).nt (st j).th ∧ IntsAt lo w A5 (st j).ne (st j).el := by
  obtain ⟨b, off, C, rfl, hb, ⟨h0, h1, h2, ⟨A3, c3, h3, g3⟩, ⟨A4, c4, h4, g4⟩, ⟨A5, c5, h5, g5⟩, h6, h7⟩, k0, k1, k2, k3, k4, k5, k6, k7⟩ := Arr.eight h hj
  exact ⟨b, off, A3, c3, A4, c4, A5, c5, rfl, hb, by rw [k0, h0], by rw [k1, h1], by rw [k2, h2], by rw [k3, h3], by rw [k4, h4], by rw [k5, h5], by rw [k6, h6], by rw [k7, h7], g3, g4, g5⟩
end

/-- A program's value, by where its five lists lie. -/
abbrev pgV (Av : Option Addr) (cv : Nat) (Ax : Option Addr) (cx : Nat) (As : Option Addr) (cs : Nat) (Ap : Option Addr) (cp : Nat) (Ab : Option Addr) (cb : Nat) (P : Prg) : Value :=
  .agg #[.slice Av P.nv cv, .slice Ax P.nx cx, .slice As P.ns cs, .slice Ap P.np cp, .slice Ab P.nb cb, .int .i64 P.fuel]
/-- A program's lists read as its data. -/
structure PgAt (lo : Nat) (w : World) (Av Ax As Ap Ab : Option Addr) (P : Prg) : Prop where
  v : VrAt lo w Av P.nv P.vn P.vz
  x : ExL lo w Ax P.nx P.ex
  s : StAt lo w As P.ns P.st
  p : PrAt lo w Ap P.np P.pn P.pl P.pb
  b : IntsAt lo w Ab P.nb P.bd

section
variable {lo lo' B : Nat} {w w' : World} {Av Ax As Ap Ab : Option Addr} {P : Prg}
theorem PgAt.keep (h : PgAt lo w Av Ax As Ap Ab P) (hk : Keeps lo w w') : PgAt lo w' Av Ax As Ap Ab P := ⟨h.v.keep hk, h.x.keep hk, h.s.keep hk, h.p.keep hk, h.b.keep hk⟩
theorem PgAt.below (h : PgAt lo w Av Ax As Ap Ab P) (hb : Below B w w') (hB : w.heap.size ≤ B) : PgAt lo w' Av Ax As Ap Ab P := h.keep (.of_below hb hB)
theorem PgAt.low (h : PgAt lo w Av Ax As Ap Ab P) (hl : lo' ≤ lo) : PgAt lo' w Av Ax As Ap Ab P := ⟨h.v.low hl, h.x.low hl, h.s.low hl, h.p.low hl, h.b.low hl⟩
end

/-- All lengths are at most 2^20. -/
structure Stm.small (s : Stm) : Prop where
  nc : s.nc ≤ 1048576
  nt : s.nt ≤ 1048576
  ne : s.ne ≤ 1048576
structure Prg.small (P : Prg) : Prop where
  nv : P.nv ≤ 1048576
  nx : P.nx ≤ 1048576
  ns : P.ns ≤ 1048576
  np : P.np ≤ 1048576
  nb : P.nb ≤ 1048576
  vn : ∀ j, j < P.nv → (P.vn j).size ≤ 1048576
  pn : ∀ j, j < P.np → (P.pn j).size ≤ 1048576
  pl : ∀ j, j < P.np → P.pl j ≤ 1048576
  st : ∀ j, j < P.ns → (P.st j).small

/-- One more struct of two cells written. -/
theorem fill2 {Q : Nat → (Nat → Value) → Prop} {k n : Nat} {cs : Array Value} (hcs : cs.size = n * 2) (hk : k < n) (h : ∀ j, j < k → ∃ C : Nat → Value, Q j C ∧ ∀ c, c < 2 → cs[j * 2 + c]? = some (C c)) (a b : Value) (D : Nat → Value) (hD : Q k D) (h0 : D 0 = a) (h1 : D 1 = b) :
    ∀ j, j < k + 1 → ∃ C : Nat → Value, Q j C ∧ ∀ c, c < 2 → ((cs.setIfInBounds (k * 2) a).setIfInBounds (k * 2 + 1) b)[j * 2 + c]? = some (C c) := by
  intro j hj
  by_cases hjk : j < k
  · obtain ⟨C, hC, hc⟩ := h j hjk
    refine ⟨C, hC, fun c hc' => ?_⟩
    simp only [Array.getElem?_setIfInBounds, Array.size_setIfInBounds]
    rw [if_neg (by omega), if_neg (by omega)]
    exact hc c hc'
  · obtain rfl : j = k := by omega
    refine ⟨D, hD, fun c hc' => ?_⟩
    simp only [Array.getElem?_setIfInBounds, Array.size_setIfInBounds]
    match c, hc' with
    | 0, _ => rw [if_neg (by omega), if_pos (by omega), if_pos (by omega), h0]
    | 1, _ => rw [if_pos (by omega), if_pos (by omega), h1]

theorem fill8 {Q : Nat → (Nat → Value) → Prop} {k n : Nat} {cs : Array Value} (hcs : cs.size = n * 8) (hk : k < n) (h : ∀ j, j < k → ∃ C : Nat → Value, Q j C ∧ ∀ c, c < 8 → cs[j * 8 + c]? = some (C c)) (D : Nat → Value) (hD : Q k D) :
    ∀ j, j < k + 1 → ∃ C : Nat → Value, Q j C ∧ ∀ c, c < 8 → ((((((((cs.setIfInBounds (k * 8) (D 0)).setIfInBounds (k * 8 + 1) (D 1)).setIfInBounds (k * 8 + 2) (D 2)).setIfInBounds (k * 8 + 3) (D 3)).setIfInBounds (k * 8 + 4) (D 4)).setIfInBounds (k * 8 + 5) (D 5)).setIfInBounds (k * 8 + 6) (D 6)).setIfInBounds (k * 8 + 7) (D 7))[j * 8 + c]? = some (C c) := by
  intro j hj
  by_cases hjk : j < k
  · obtain ⟨C, hC, hc⟩ := h j hjk
    refine ⟨C, hC, fun c hc' => ?_⟩
    simp only [Array.getElem?_setIfInBounds, Array.size_setIfInBounds]
    rw [if_neg (by omega), if_neg (by omega), if_neg (by omega), if_neg (by omega), if_neg (by omega), if_neg (by omega), if_neg (by omega), if_neg (by omega)]
    exact hc c hc'
  · obtain rfl : j = k := by omega
    refine ⟨D, hD, fun c hc' => ?_⟩
    simp only [Array.getElem?_setIfInBounds, Array.size_setIfInBounds]
    match c, hc' with
    | 0, _ => rw [if_neg (by omega), if_neg (by omega), if_neg (by omega), if_neg (by omega), if_neg (by omega), if_neg (by omega), if_neg (by omega), if_pos (by omega), if_pos (by omega)]
    | 1, _ => rw [if_neg (by omega), if_neg (by omega), if_neg (by omega), if_neg (by omega), if_neg (by omega), if_neg (by omega), if_pos (by omega), if_pos (by omega)]
    | 2, _ => rw [if_neg (by omega), if_neg (by omega), if_neg (by omega), if_neg (by omega), if_neg (by omega), if_pos (by omega), if_pos (by omega)]
    | 3, _ => rw [if_neg (by omega), if_neg (by omega), if_neg (by omega), if_neg (by omega), if_pos (by omega), if_pos (by omega)]
    | 4, _ => rw [if_neg (by omega), if_neg (by omega), if_neg (by omega), if_pos (by omega), if_pos (by omega)]
    | 5, _ => rw [if_neg (by omega), if_neg (by omega), if_pos (by omega), if_pos (by omega)]
    | 6, _ => rw [if_neg (by omega), if_pos (by omega), if_pos (by omega)]
    | 7, _ => rw [if_pos (by omega), if_pos (by omega)]

end Go.Proofs.Ytamjfcckgeakfaa
