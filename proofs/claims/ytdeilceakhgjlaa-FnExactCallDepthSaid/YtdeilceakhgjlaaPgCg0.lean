/-
  Calls: the mathematics. What a procedure calls, what comes back to itself, how deep calls go; and sets of small numbers as lists in blocks of their own.
-/
import Derived.Test.YtdeilceakhgjlaaPgAs1
namespace Go.Proofs.Ytdeilceakhgjlaa
open Go.RowKit Num

/-- One call further. -/
def stp (g : Nat → Nat → Bool) (S : Nat → Bool) (j : Nat) : Bool := (S 0 && g 0 j) || (S 1 && g 1 j) || (S 2 && g 2 j)
/-- Reached by i calls more. -/
def rch (g : Nat → Nat → Bool) (p : Nat) : Nat → Nat → Bool
  | 0 => g p
  | i + 1 => stp g (rch g p i)
/-- Reached by at most i calls more. -/
def acc (g : Nat → Nat → Bool) (p : Nat) : Nat → Nat → Bool
  | 0 => g p
  | i + 1 => fun j => acc g p i j || stp g (acc g p i) j
theorem rch0 (g : Nat → Nat → Bool) (p : Nat) : rch g p 0 = g p := rfl
theorem rch1 (g : Nat → Nat → Bool) (p : Nat) : rch g p 1 = stp g (g p) := rfl
theorem rch2 (g : Nat → Nat → Bool) (p : Nat) : rch g p 2 = stp g (stp g (g p)) := rfl
theorem rch3 (g : Nat → Nat → Bool) (p : Nat) : rch g p 3 = stp g (stp g (stp g (g p))) := rfl
theorem stp_mono {g : Nat → Nat → Bool} {S T : Nat → Bool} (h : ∀ j, S j = true → T j = true) (j : Nat) (k : stp g S j = true) : stp g T j = true := by
  simp only [stp, Bool.or_eq_true, Bool.and_eq_true] at k ⊢
  rcases k with (⟨a, b⟩ | ⟨a, b⟩) | ⟨a, b⟩
  · exact .inl (.inl ⟨h _ a, b⟩)
  · exact .inl (.inr ⟨h _ a, b⟩)
  · exact .inr ⟨h _ a, b⟩
theorem acc_rch (g : Nat → Nat → Bool) (p : Nat) : ∀ k j, acc g p k j = true ↔ ∃ i, i ≤ k ∧ rch g p i j = true
  | 0, j => ⟨fun h => ⟨0, Nat.le_refl _, h⟩, fun ⟨i, hi, h⟩ => by
    obtain rfl : i = 0 := by omega
    exact h⟩
  | k + 1, j => by
    have ih := acc_rch g p k
    simp only [acc, Bool.or_eq_true]
    constructor
    · rintro (h | h)
      · obtain ⟨i, hi, hr⟩ := (ih j).1 h
        exact ⟨i, by omega, hr⟩
      · simp only [stp, Bool.or_eq_true, Bool.and_eq_true] at h
        have key : ∀ q, acc g p k q = true → g q j = true → (q = 0 ∨ q = 1 ∨ q = 2) → ∃ i, i ≤ k + 1 ∧ rch g p i j = true := fun q hq hg hc => by
          obtain ⟨i, hi, hr⟩ := (ih q).1 hq
          refine ⟨i + 1, by omega, ?_⟩
          simp only [rch, stp, Bool.or_eq_true, Bool.and_eq_true]
          rcases hc with rfl | rfl | rfl
          · exact .inl (.inl ⟨hr, hg⟩)
          · exact .inl (.inr ⟨hr, hg⟩)
          · exact .inr ⟨hr, hg⟩
        rcases h with (⟨a, b⟩ | ⟨a, b⟩) | ⟨a, b⟩
        · exact key 0 a b (.inl rfl)
        · exact key 1 a b (.inr (.inl rfl))
        · exact key 2 a b (.inr (.inr rfl))
    · rintro ⟨i, hi, hr⟩
      by_cases e : i ≤ k
      · exact .inl ((ih j).2 ⟨i, e, hr⟩)
      · obtain rfl : i = k + 1 := by omega
        exact .inr (stp_mono (fun q hq => (ih q).2 ⟨k, Nat.le_refl _, hq⟩) j hr)
theorem cycle2 (a b c d : Bool) : (!((a && a || b && c) && a || (a && b || b && d) && c) || a || (a && a || b && c)) = true ∧ (!((c && a || d && c) && b || (c && b || d && d) && d) || d || (c && b || d && d)) = true := by
  revert a b c d
  decide +kernel
theorem cycle3 (a b c d e f g h i : Bool) :
    let r := fun (x y : Nat) => if x = 0 then (if y = 0 then a else if y = 1 then b else c) else if x = 1 then (if y = 0 then d else if y = 1 then e else f) else (if y = 0 then g else if y = 1 then h else i)
    ((!rch r 0 3 0 || rch r 0 0 0 || rch r 0 1 0 || rch r 0 2 0) && (!rch r 1 3 1 || rch r 1 0 1 || rch r 1 1 1 || rch r 1 2 1) && (!rch r 2 3 2 || rch r 2 0 2 || rch r 2 1 2 || rch r 2 2 2)) = true := by
  revert a b c d e f g h i
  decide +kernel
/-- A procedure that comes back to itself does so by at most as many calls as there are procedures. -/
theorem cycle {g : Nat → Nat → Bool} {np p : Nat} (hn : np ≤ 3) (hp : p < np) (hg : ∀ q j, g q j = true → j < np) (h : rch g p np p = true) : ∃ i, i < np ∧ rch g p i p = true := by
  have hf : ∀ q j, np ≤ j → g q j = false := fun q j hj => by
    cases e : g q j with
    | false => rfl
    | true => exact absurd (hg q j e) (by omega)
  have hc : np = 1 ∨ np = 2 ∨ np = 3 := by omega
  rcases hc with rfl | rfl | rfl
  · obtain rfl : p = 0 := by omega
    refine ⟨0, by omega, ?_⟩
    rw [rch0]
    have e1 := hf 0 1 (by omega)
    have e2 := hf 0 2 (by omega)
    simp only [rch1, stp, e1, e2, Bool.false_and, Bool.or_false, Bool.and_eq_true] at h
    exact h.1
  · have e02 := hf 0 2 (by omega)
    have e12 := hf 1 2 (by omega)
    have hk := cycle2 (g 0 0) (g 0 1) (g 1 0) (g 1 1)
    have hpc : p = 0 ∨ p = 1 := by omega
    have key : (!rch g p 2 p || rch g p 0 p || rch g p 1 p) = true := by
      rcases hpc with rfl | rfl
      · simpa [rch0, rch1, rch2, stp, e02, e12] using hk.1
      · simpa [rch0, rch1, rch2, stp, e02, e12] using hk.2
    rw [h] at key
    simp only [Bool.not_true, Bool.false_or, Bool.or_eq_true] at key
    rcases key with k | k
    · exact ⟨0, by omega, k⟩
    · exact ⟨1, by omega, k⟩
  · have hk := cycle3 (g 0 0) (g 0 1) (g 0 2) (g 1 0) (g 1 1) (g 1 2) (g 2 0) (g 2 1) (g 2 2)
    have hpc : p = 0 ∨ p = 1 ∨ p = 2 := by omega
    simp only [rch0, rch1, rch2, rch3, stp, Bool.and_eq_true] at hk
    have key : (!rch g p 3 p || rch g p 0 p || rch g p 1 p || rch g p 2 p) = true := by
      rcases hpc with rfl | rfl | rfl
      · simpa [rch0, rch1, rch2, rch3, stp] using hk.1.1
      · simpa [rch0, rch1, rch2, rch3, stp] using hk.1.2
      · simpa [rch0, rch1, rch2, rch3, stp] using hk.2
    rw [h] at key
    simp only [Bool.not_true, Bool.false_or, Bool.or_eq_true] at key
    rcases key with (k | k) | k
    · exact ⟨0, by omega, k⟩
    · exact ⟨1, by omega, k⟩
    · exact ⟨2, by omega, k⟩
theorem cyc_iff {g : Nat → Nat → Bool} {np p : Nat} (hn : np ≤ 3) (hp : p < np) (hg : ∀ q j, g q j = true → j < np) : acc g p np p = true ↔ ∃ i, i < np ∧ rch g p i p = true := by
  rw [acc_rch]
  constructor
  · rintro ⟨i, hi, h⟩
    by_cases e : i < np
    · exact ⟨i, e, h⟩
    · obtain rfl : i = np := by omega
      exact cycle hn hp hg h
  · rintro ⟨i, hi, h⟩
    exact ⟨i, by omega, h⟩
/-- How many calls one inside the other, at most f. -/
def dep (g : Nat → Nat → Bool) : Nat → (Nat → Bool) → Nat
  | 0, _ => 0
  | f + 1, S => if (S 0 || S 1 || S 2) = true then 1 + dep g f (stp g S) else 0
theorem dep_zero (g : Nat → Nat → Bool) (S : Nat → Bool) : dep g 0 S = 0 := rfl
theorem dep_succ (g : Nat → Nat → Bool) (f : Nat) (S : Nat → Bool) : dep g (f + 1) S = if (S 0 || S 1 || S 2) = true then 1 + dep g f (stp g S) else 0 := rfl
theorem dep_congr {g : Nat → Nat → Bool} {f : Nat} {S T : Nat → Bool} (h : ∀ j, j < 3 → S j = T j) : dep g f S = dep g f T := by
  cases f with
  | zero => rfl
  | succ f =>
    have e : stp g S = stp g T := by
      funext j
      simp only [stp, h 0 (by omega), h 1 (by omega), h 2 (by omega)]
    rw [dep_succ, dep_succ, e, h 0 (by omega), h 1 (by omega), h 2 (by omega)]
theorem dep_none (g : Nat → Nat → Bool) (f : Nat) {S : Nat → Bool} (h : ∀ j, j < 3 → S j = false) : dep g f S = 0 := by
  cases f with
  | zero => rfl
  | succ f => rw [dep_succ, h 0 (by omega), h 1 (by omega), h 2 (by omega)]; rfl
theorem stp_or (g : Nat → Nat → Bool) (S T : Nat → Bool) : stp g (fun j => S j || T j) = fun j => stp g S j || stp g T j := by
  funext j
  simp only [stp]
  cases S 0 <;> cases S 1 <;> cases S 2 <;> cases T 0 <;> cases T 1 <;> cases T 2 <;> cases g 0 j <;> cases g 1 j <;> cases g 2 j <;> rfl
theorem dep_or (g : Nat → Nat → Bool) : ∀ (f : Nat) (S T : Nat → Bool), dep g f (fun j => S j || T j) = max (dep g f S) (dep g f T)
  | 0, _, _ => rfl
  | f + 1, S, T => by
    by_cases hS : (S 0 || S 1 || S 2) = true
    · by_cases hT : (T 0 || T 1 || T 2) = true
      · rw [dep_succ, dep_succ, dep_succ, if_pos hS, if_pos hT, if_pos (by
          simp only [Bool.or_eq_true] at hS ⊢
          rcases hS with (h | h) | h
          · exact .inl (.inl (.inl h))
          · exact .inl (.inr (.inl h))
          · exact .inr (.inl h)), stp_or, dep_or g f]
        omega
      · have h0 : ∀ j, j < 3 → T j = false := fun j hj => by
          simp only [Bool.or_eq_true, not_or, Bool.not_eq_true] at hT
          have : j = 0 ∨ j = 1 ∨ j = 2 := by omega
          rcases this with rfl | rfl | rfl
          · exact hT.1.1
          · exact hT.1.2
          · exact hT.2
        rw [dep_none g (f + 1) h0, dep_congr (T := S) (fun j hj => by rw [h0 j hj, Bool.or_false])]
        omega
    · have h0 : ∀ j, j < 3 → S j = false := fun j hj => by
        simp only [Bool.or_eq_true, not_or, Bool.not_eq_true] at hS
        have : j = 0 ∨ j = 1 ∨ j = 2 := by omega
        rcases this with rfl | rfl | rfl
        · exact hS.1.1
        · exact hS.1.2
        · exact hS.2
      rw [dep_none g (f + 1) h0, dep_congr (T := T) (fun j hj => by rw [h0 j hj, Bool.false_or])]
      omega
theorem dep_one (g : Nat → Nat → Bool) (f q : Nat) (hq : q < 3) : dep g (f + 1) (setU (fun _ => false) q) = 1 + dep g f (g q) := by
  have : q = 0 ∨ q = 1 ∨ q = 2 := by omega
  have e : stp g (setU (fun _ => false) q) = g q := by
    funext j
    rcases this with rfl | rfl | rfl <;> simp [stp, setU]
  rw [dep_succ, e, if_pos]
  rcases this with rfl | rfl | rfl <;> simp [setU]

def foldU (g : Int → (Nat → Bool) → Nat → Bool) (b : Nat → Int) : Nat → (Nat → Bool) → Nat → Bool
  | 0, u => u
  | k + 1, u => g (b k) (foldU g b k u)
theorem foldU_succ (g : Int → (Nat → Bool) → Nat → Bool) (b : Nat → Int) (k : Nat) (u : Nat → Bool) : foldU g b (k + 1) u = g (b k) (foldU g b k u) := rfl
/-- A statement's own call. -/
def clS (P : Prg) (s : Stm) (u : Nat → Bool) : Nat → Bool := if s.kind = 8 ∧ s.proc.toNat < P.np then setU u s.proc.toNat else u
/-- What a statement nested to depth d calls. -/
def clD (P : Prg) : Nat → Int → (Nat → Bool) → Nat → Bool
  | 0, _, u => u
  | d + 1, i, u => foldU (clD P d) (P.st i.toNat).el (P.st i.toNat).ne (foldU (clD P d) (P.st i.toNat).th (P.st i.toNat).nt (clS P (P.st i.toNat) u))
theorem clD_succ (P : Prg) (d : Nat) (i : Int) (u : Nat → Bool) : clD P (d + 1) i u = foldU (clD P d) (P.st i.toNat).el (P.st i.toNat).ne (foldU (clD P d) (P.st i.toNat).th (P.st i.toNat).nt (clS P (P.st i.toNat) u)) := rfl
def nob : Nat → Bool := fun _ => false
theorem ups_nob (K : Nat) : ups nob K = [] := by
  induction K with
  | zero => rfl
  | succ k ih => rw [ups_succ, ih]; rfl
theorem foldU_or {g : Int → (Nat → Bool) → Nat → Bool} (hg : ∀ i u, g i u = fun j => u j || g i nob j) (b : Nat → Int) : ∀ (n : Nat) (u : Nat → Bool), foldU g b n u = fun j => u j || foldU g b n nob j
  | 0, u => by funext j; simp [foldU, nob]
  | n + 1, u => by
    rw [foldU_succ, foldU_succ, hg (b n) (foldU g b n u), hg (b n) (foldU g b n nob), foldU_or hg b n u]
    funext j
    rw [Bool.or_assoc]
theorem clS_or (P : Prg) (s : Stm) (u : Nat → Bool) : clS P s u = fun j => u j || clS P s nob j := by
  unfold clS
  split
  · funext j; simp [setU, nob]
  · funext j; simp [nob]
theorem clD_or (P : Prg) : ∀ (d : Nat) (i : Int) (u : Nat → Bool), clD P d i u = fun j => u j || clD P d i nob j
  | 0, _, u => by funext j; simp [clD, nob]
  | d + 1, i, u => by
    have h1 := foldU_or (clD_or P d)
    rw [clD_succ, clD_succ, h1 _ _ (foldU _ _ _ (clS P _ u)), h1 _ _ (foldU _ _ _ (clS P _ nob)), h1 _ _ (clS P _ u), h1 _ _ (clS P _ nob), clS_or P _ u]
    funext j
    simp only [Bool.or_assoc]
theorem foldU_lt {m : Nat} {g : Int → (Nat → Bool) → Nat → Bool} (hg : ∀ i u, (∀ j, u j = true → j < m) → ∀ j, g i u j = true → j < m) (b : Nat → Int) : ∀ (n : Nat) (u : Nat → Bool), (∀ j, u j = true → j < m) → ∀ j, foldU g b n u j = true → j < m
  | 0, _, h => h
  | n + 1, u, h => hg _ _ (foldU_lt hg b n u h)
theorem clD_lt (P : Prg) : ∀ (d : Nat) (i : Int) (u : Nat → Bool), (∀ j, u j = true → j < P.np) → ∀ j, clD P d i u j = true → j < P.np
  | 0, _, _, h => h
  | d + 1, i, u, h => by
    refine foldU_lt (clD_lt P d) _ _ _ (foldU_lt (clD_lt P d) _ _ _ (fun j hj => ?_))
    unfold clS at hj
    split at hj
    · next hc =>
      simp only [setU, Bool.or_eq_true, beq_iff_eq] at hj
      rcases hj with hj | rfl
      · exact h j hj
      · exact hc.2
    · exact h j hj
/-- What procedure q calls; the body stands behind the procedures. -/
def gr (P : Prg) (q : Nat) : Nat → Bool := if q < P.np then foldU (clD P P.ns) (P.pb q) (P.pl q) nob else foldU (clD P P.ns) P.bd P.nb nob
theorem gr_lt (P : Prg) (q j : Nat) (h : gr P q j = true) : j < P.np := by
  unfold gr at h
  split at h
  · exact foldU_lt (clD_lt P P.ns) _ _ _ (fun _ hj => by cases hj) _ h
  · exact foldU_lt (clD_lt P P.ns) _ _ _ (fun _ hj => by cases hj) _ h

/-- A list under way in a block of its own: nil as long as it is empty. -/
def OutT (lo : Nat) (w : World) (v : Value) (xs : List Int) : Prop :=
  (xs = [] ∧ v = .slice none 0 0) ∨ (0 < xs.length ∧ w.ownsRow lo 3 1 v xs.length (cellsL xs))
theorem own_low {base base' size n : Nat} {e : TypeId} {w : World} {v : Value} {xs : List Value} (h : w.ownsRow base e size v n xs) (hl : base' ≤ base) : w.ownsRow base' e size v n xs := by
  refine ⟨h.1, ?_⟩
  rcases h.2 with h2 | ⟨b, cap, cur, e1, h3, h4⟩
  · exact .inl h2
  · exact .inr ⟨b, cap, cur, e1, Nat.le_trans hl h3, h4⟩
theorem OutT.low {lo lo' : Nat} {w : World} {v : Value} {xs : List Int} (h : OutT lo w v xs) (hl : lo' ≤ lo) : OutT lo' w v xs := by
  rcases h with h | ⟨h0, h1⟩
  · exact .inl h
  · exact .inr ⟨h0, own_low h1 hl⟩
theorem OutT.below {lo B : Nat} {w w' : World} {v : Value} {xs : List Int} (h : OutT lo w v xs) (hb : Below B w w') (hB : w.heap.size ≤ B) : OutT lo w' v xs := by
  rcases h with h | ⟨h0, h1⟩
  · exact .inl h
  · exact .inr ⟨h0, own_keeps h1 hb hB⟩
theorem OutT.open {lo : Nat} {w : World} {v : Value} {xs : List Int} (h : OutT lo w v xs) : ∃ A c, v = .slice A xs.length c ∧ xs.length ≤ c ∧ LsAt lo w A xs := by
  rcases h with ⟨rfl, rfl⟩ | ⟨h0, h1⟩
  · exact ⟨none, 0, rfl, Nat.le_refl _, fun h => absurd h (Nat.lt_irrefl 0)⟩
  · rcases h1.2 with ⟨_, h2⟩ | ⟨b, cap, cur, rfl, h3, h4, h5, h6⟩
    · omega
    · exact ⟨_, cap, rfl, h5, (LsAt.of_own h1).2⟩
theorem OutT.out {lo : Nat} {w : World} {v : Value} {xs : List Int} (h : OutT lo w v xs) : OutAt lo w v xs := by
  rcases h with h | ⟨h0, h1⟩
  · exact .inl h
  · rcases h1.2 with ⟨_, h2⟩ | ⟨b, cap, cur, rfl, h3, h4, h5, h6⟩
    · omega
    · exact OutAt.of_own h1 h0
theorem OutT.of_own {base n : Nat} {w : World} {v : Value} {xs : List Int} (h : w.ownsRow base 3 1 v n (cellsL xs)) (hn : 0 < n) : OutT base w v xs := by
  have hl : n = xs.length := by have := h.1; simp only [cellsL, List.length_map] at this; omega
  subst hl
  exact .inr ⟨hn, h⟩
/-- Another row, of lists, grows: the list stays. -/
theorem OutT.kept {lo base n : Nat} {w w' : World} {v r : Value} {xs : List Int} {rs : List Value} (h : OutT lo w v xs) (hr : w.ownsRow base 26 1 r n rs) (hg : w.grownBy w' r.ownBlock) : OutT lo w' v xs := by
  rcases h with h | ⟨h0, h1⟩
  · exact .inl h
  · refine .inr ⟨h0, h1.kept hg ?_⟩
    rcases h1.2 with ⟨_, h2⟩ | ⟨b, cap, cur, rfl, h3, h4, h5⟩
    · omega
    · rcases hr.2 with ⟨h6, _⟩ | ⟨b', cap', cur', rfl, h3', h4', h5'⟩
      · subst h6
        exact .inr (by simp [Value.ownBlock])
      · refine .inr fun e => ?_
        simp only [Value.ownBlock, Option.some.injEq] at e
        subst e
        have := h4.symm.trans h4'
        simp at this

/-- A number is put into the list. -/
theorem put_own (lo : Nat) (u : Nat → Bool) (K v : Nat) (xv : Value) (w : World) (hv : v < K) (hK : K ≤ 100) (hlo : lo ≤ w.heap.size) (h : OutT lo w xv (ups u K)) :
    Calls Try.prog 53 #[xv, .int .i64 (v : Nat)] w fun e w' => ∃ xv', e = .returned xv' ∧ OutT lo w' xv' (ups (setU u v) K) ∧ Below w.heap.size w w' := by
  have hle := ups_le u K
  have hT := h
  have h := h.out
  rcases h with ⟨h0, rfl⟩ | ⟨h0, b, off, c, rfl, h1, h2⟩
  · have hs := ups_split u hv
    rw [h0] at hs
    have hz : ups u v = [] ∧ tops u v K = [] := by
      have := hs.symm
      simp only [List.append_eq_nil_iff] at this
      exact ⟨this.1, this.2.2⟩
    have he : ups (setU u v) K = [(v : Int)] := by rw [ups_set u hv, hz.1, hz.2]; rfl
    rw [he]
    refine (putNil_any (v : Int) w).mono ?_
    rintro e w' ⟨A1, c1, rfl, ho, hb⟩
    exact ⟨_, rfl, (OutT.of_own ho (by omega)).low hlo, hb⟩
  · cases hu : u v with
    | true =>
      have hs : ups u K = ups u v ++ (v : Int) :: tops u v K := by rw [ups_split u hv, hu]; rfl
      have hsame : ups (setU u v) K = ups u K := by rw [ups_set u hv, hs]
      rw [hsame]
      rw [hs] at h2
      refine (putHas_any lo _ c (ups u K).length (ups u v) (tops u v K) (v : Int) w (by omega) (by rw [hs]) ups_low h2).mono ?_
      rintro e w' ⟨rfl, rfl⟩
      exact ⟨_, rfl, hT, Below.refl _ _⟩
    | false =>
      have hs : ups u K = ups u v ++ tops u v K := by rw [ups_split u hv, hu]; rfl
      have hlen : (ups u K).length = (ups u v).length + (tops u v K).length := by rw [hs, List.length_append]
      rw [ups_set u hv]
      obtain ⟨b', off', e', hb', hc'⟩ := h2 h0
      injection e' with e'
      injection e' with e1 e2 _
      subst e1 e2
      have hcells := h2.cells
      refine (putNew_f b off c (ups u K).length (ups u v).length (fun j => (ups u K).getD j 0) (ups u v) (tops u v K) (v : Int) w hb'.lt h0 (by omega) h1 (by omega) rfl (by omega) (fun j hj => ?_) (fun hp => ?_) hc' (fun j z hz => ?_) (fun j z hz => ?_)).mono ?_
      · show (ups u K).getD j 0 < _
        rw [hs, List.getD, List.getElem?_append_left hj, List.getElem?_eq_getElem hj]
        exact ups_low _ (List.getElem_mem hj)
      · show _ < (ups u K).getD (ups u v).length 0
        rw [hs, List.getD, List.getElem?_append_right (Nat.le_refl _), Nat.sub_self, List.getElem?_eq_getElem (by omega)]
        exact tops_high _ (List.getElem_mem _)
      · refine hcells j z ?_
        rw [hs, cellsL_app, List.getElem?_append_left ?_]
        · exact hz
        · rcases Nat.lt_or_ge j (cellsL (ups u v)).length with h | h
          · exact h
          · rw [List.getElem?_eq_none h] at hz; cases hz
      · have := hcells ((ups u v).length + j) z (by
          rw [hs, cellsL_app, List.getElem?_append_right (by simp [cellsL])]
          rw [show (ups u v).length + j - (cellsL (ups u v)).length = j by simp [cellsL]]
          exact hz)
        rw [← Nat.add_assoc] at this
        exact this
      · rintro e w' ⟨A1, c1, rfl, ho, hb⟩
        exact ⟨_, rfl, (OutT.of_own ho (by omega)).low hlo, hb⟩

theorem OutT.own {lo m : Nat} {w : World} {v : Value} {xs : List Int} (h : OutT lo w v xs) (hm : m = xs.length) : w.ownsRow lo 3 1 v m (cellsL xs) := by
  subst hm
  rcases h with ⟨rfl, rfl⟩ | ⟨_, h⟩
  · exact ⟨rfl, .inl ⟨rfl, rfl⟩⟩
  · exact h

set_option maxRecDepth 100000 in
set_option maxHeartbeats 3200000 in
/-- The list of the true elements. -/
theorem setBits_own (A0 : Option Addr) (n c : Nat) (u : Nat → Bool) (w : World) (hn : n ≤ 100) (h : BoolsAt w A0 n u) :
    Calls Try.prog 113 #[.slice A0 n c] w fun e w' => ∃ v, e = .returned v ∧ OutT w.heap.size w' v (ups u n) ∧ Below w.heap.size w w' := by
  obtain ⟨i0, ji, jz0, jz1, jz2⟩ := info_three Try.infoInt3
  have H := Lib.hid h
  clear h
  go_enter Try.func113, Try.ntmps113
  go_wp2_with fail
  go_loopg [3, 8] n (fun q lv iv wr => ∃ (k m : Nat), k + q = n ∧ iv = .int .i64 (k : Nat) ∧ Hid (m = (ups u k).length) ∧ OutT w.heap.size wr lv (ups u k) ∧ Below w.heap.size w wr)
  case atStart => exact ⟨0, 0, by omega, rfl, Lib.hid rfl, .inl ⟨rfl, rfl⟩, Below.refl _ _⟩
  case round =>
    obtain ⟨k, m, hk, rfl, hm, hou, hbel⟩ := hrel
    have hmk : m ≤ k := by rw [hm.out]; exact ups_le u k
    have hown := hou.own hm.out
    by_cases hk0 : k < n
    · obtain ⟨b, off, rfl, hb, r0⟩ := (H.out.below hbel (Nat.le_refl _)) k hk0
      have hsz := hbel.size
      cases hu : u k with
      | true =>
        have HU := Lib.hid (show ups u (k + 1) = ups u k ++ [(k : Int)] by rw [ups_succ, hu]; rfl)
        rw [hu] at r0
        clear hu
        go_wp2_with (at_builtin; refine wpList_append_own _ rfl _ _ 26 rfl w.heap.size 3 i0 (.int .i64 0) 1 8 Try.underlying26 ji jz0 jz1 jz2 rfl (by decide) _ m _ rfl (hown.alloc _) ⟨wr.heap.size, 0, none⟩ 1 1 [.int .i64 (k : Nat)] rfl rfl (cell_one_new _ _ _) (one_int _ _) (by unfold maxLen; omega) (by omega) (by simp; omega) ?_; intro v6 w6 hown6 hgrow6 _)
        go_roundg (gk - 1)
        case rel =>
          refine ⟨k + 1, m + 1, by omega, by go_num, Lib.hid (by rw [HU.out, List.length_append, ← hm.out]; rfl), ?_, (hbel.alloc hsz _).grown hgrow6 (by simp; omega) (fun r hr => (hown.lt r hr).1)⟩
          rw [HU.out]
          exact OutT.of_own (by rw [cellsL_app]; exact hown6) (Nat.succ_pos m)
        case measure => omega
      | false =>
        have HU := Lib.hid (show ups u (k + 1) = ups u k by rw [ups_succ, hu]; simp)
        rw [hu] at r0
        clear hu
        go_wp2_with fail
        go_roundg (gk - 1)
        case rel => exact ⟨k + 1, m, by omega, by go_num, Lib.hid (by rw [HU.out]; exact hm.out), by rw [HU.out]; exact hou, hbel⟩
        case measure => omega
    · obtain rfl : k = n := by omega
      go_wp2_with fail
      go_ret
      exact ⟨_, rfl, hou, hbel⟩

end Go.Proofs.Ytdeilceakhgjlaa
