/-
  Plain mathematics, no program: a natural number as the list of its digits in base b, least significant first, without leading zeros; the lemmas on addition, subtraction, multiplication, comparison and lengths that the walks of both number formats use.
-/
namespace Go.Proofs.YtbcckgofoknmbaaDoor
namespace Num

/-- The value of a list of digits, least significant first. -/
def val (b : Nat) : List Nat → Nat
  | [] => 0
  | x :: xs => x + b * val b xs

/-- All digits are below b. -/
def Dig (b : Nat) (xs : List Nat) : Prop := ∀ x ∈ xs, x < b

/-- The digits of n, with fuel. -/
def digF (b : Nat) : Nat → Nat → List Nat
  | 0, _ => []
  | f + 1, n => if n = 0 then [] else n % b :: digF b f (n / b)

/-- The digits of n in base b, least significant first, without leading zeros. -/
def digs (b n : Nat) : List Nat := digF b n n

/-- The number of digits. -/
def ln (b n : Nat) : Nat := (digs b n).length

theorem digF_more (b : Nat) (hb : 2 ≤ b) : ∀ f g n, n ≤ f → n ≤ g → digF b f n = digF b g n := by
  intro f
  induction f with
  | zero =>
    intro g n hf _
    have : n = 0 := by omega
    subst this
    cases g <;> simp [digF]
  | succ f ih =>
    intro g n hf hg
    by_cases hn : n = 0
    · subst hn
      cases g <;> simp [digF]
    · cases g with
      | zero => omega
      | succ g =>
        have hd : n / b < n := Nat.div_lt_self (by omega) (by omega)
        simp only [digF, hn, if_false]
        rw [ih g (n / b) (by omega) (by omega)]

theorem digs_zero (b : Nat) : digs b 0 = [] := rfl

theorem digs_pos (b n : Nat) (hb : 2 ≤ b) (hn : 0 < n) : digs b n = n % b :: digs b (n / b) := by
  unfold digs
  cases n with
  | zero => omega
  | succ m =>
    have hd : (m + 1) / b < m + 1 := Nat.div_lt_self (by omega) (by omega)
    simp only [digF, Nat.succ_ne_zero, if_false]
    rw [digF_more b hb m ((m + 1) / b) ((m + 1) / b) (by omega) (Nat.le_refl _)]

theorem val_digs (b : Nat) (hb : 2 ≤ b) (n : Nat) : val b (digs b n) = n := by
  induction n using Nat.strongRecOn with
  | ind n ih =>
    by_cases hn : n = 0
    · subst hn; rfl
    · rw [digs_pos b n hb (by omega)]
      simp only [val]
      rw [ih _ (Nat.div_lt_self (by omega) (by omega))]
      exact Nat.mod_add_div n b

theorem dig_digs (b : Nat) (hb : 2 ≤ b) (n : Nat) : Dig b (digs b n) := by
  induction n using Nat.strongRecOn with
  | ind n ih =>
    by_cases hn : n = 0
    · subst hn; intro x hx; simp [digs_zero] at hx
    · rw [digs_pos b n hb (by omega)]
      intro x hx
      rcases List.mem_cons.1 hx with rfl | hx
      · exact Nat.mod_lt _ (by omega)
      · exact ih _ (Nat.div_lt_self (by omega) (by omega)) x hx

theorem val_append (b : Nat) (xs ys : List Nat) : val b (xs ++ ys) = val b xs + b ^ xs.length * val b ys := by
  induction xs with
  | nil => simp [val]
  | cons x xs ih => simp only [List.cons_append, val, ih, List.length_cons, Nat.pow_succ]; rw [Nat.mul_add, Nat.add_assoc, Nat.mul_comm (b ^ xs.length) b, Nat.mul_assoc]

theorem val_lt (b : Nat) (xs : List Nat) (hd : Dig b xs) : val b xs < b ^ xs.length := by
  induction xs with
  | nil => simp [val]
  | cons x xs ih =>
    have hx : x < b := hd x (by simp)
    have h := ih (fun y hy => hd y (by simp [hy]))
    simp only [val, List.length_cons, Nat.pow_succ]
    have : b * val b xs + b ≤ b * b ^ xs.length := by
      rw [← Nat.mul_succ]; exact Nat.mul_le_mul_left _ h
    rw [Nat.mul_comm (b ^ xs.length) b]; omega

theorem val_snoc (b : Nat) (xs : List Nat) (x : Nat) : val b (xs ++ [x]) = val b xs + b ^ xs.length * x := by
  rw [val_append]; simp [val]

/-- A list of digits whose value reaches the power of its length less one is the number's digits. -/
theorem digs_val (b : Nat) (hb : 2 ≤ b) (xs : List Nat) (hd : Dig b xs) (hlo : xs ≠ [] → b ^ (xs.length - 1) ≤ val b xs) : digs b (val b xs) = xs := by
  induction xs with
  | nil => rfl
  | cons x xs ih =>
    have hx : x < b := hd x (by simp)
    have hd' : Dig b xs := fun y hy => hd y (by simp [hy])
    have hpos : 0 < val b (x :: xs) := Nat.lt_of_lt_of_le (Nat.pow_pos (by omega)) (hlo (by simp))
    have e1 : val b (x :: xs) % b = x := by simp only [val]; rw [Nat.add_mul_mod_self_left]; exact Nat.mod_eq_of_lt hx
    have e2 : val b (x :: xs) / b = val b xs := by
      simp only [val]; rw [Nat.add_mul_div_left _ _ (by omega : 0 < b), Nat.div_eq_of_lt hx]; omega
    rw [digs_pos b _ hb hpos, e1, e2, ih hd' ?_]
    intro hne
    have h := hlo (by simp)
    simp only [List.length_cons, Nat.add_sub_cancel] at h
    have hl : xs.length = (xs.length - 1) + 1 := by cases xs with
      | nil => exact absurd rfl hne
      | cons _ _ => simp
    rw [hl, Nat.pow_succ] at h
    have h2 : b ^ (xs.length - 1) * b / b ≤ val b (x :: xs) / b := Nat.div_le_div_right h
    rw [Nat.mul_div_cancel _ (by omega : 0 < b), e2] at h2
    exact h2

/-- Likewise where the last digit is not 0. -/
theorem digs_val_last (b : Nat) (hb : 2 ≤ b) (xs : List Nat) (x : Nat) (hd : Dig b (xs ++ [x])) (hx : x ≠ 0) : digs b (val b (xs ++ [x])) = xs ++ [x] := by
  apply digs_val b hb _ hd
  intro _
  rw [val_snoc]
  simp only [List.length_append, List.length_cons, List.length_nil, Nat.zero_add, Nat.add_sub_cancel]
  exact Nat.le_trans (Nat.le_mul_of_pos_right _ (by omega)) (Nat.le_add_left _ _)

theorem ln_zero (b : Nat) : ln b 0 = 0 := rfl

theorem ln_pos (b n : Nat) (hb : 2 ≤ b) (hn : 0 < n) : ln b n = ln b (n / b) + 1 := by
  unfold ln; rw [digs_pos b n hb hn]; rfl

theorem ln_eq_zero (b n : Nat) (hb : 2 ≤ b) : ln b n = 0 ↔ n = 0 := by
  constructor
  · intro h
    by_cases hn : n = 0
    · exact hn
    · rw [ln_pos b n hb (by omega)] at h; omega
  · rintro rfl; rfl

theorem lt_pow_ln (b n : Nat) (hb : 2 ≤ b) : n < b ^ ln b n := by
  have h := val_lt b (digs b n) (dig_digs b hb n)
  rwa [val_digs b hb] at h

theorem pow_ln_le (b n : Nat) (hb : 2 ≤ b) (hn : 0 < n) : b ^ (ln b n - 1) ≤ n := by
  induction n using Nat.strongRecOn with
  | ind n ih =>
    rw [ln_pos b n hb hn]
    simp only [Nat.add_sub_cancel]
    by_cases hq : n / b = 0
    · rw [hq, ln_zero]; simp; omega
    · have h := ih (n / b) (Nat.div_lt_self hn (by omega)) (Nat.pos_of_ne_zero hq)
      have hl : ln b (n / b) ≠ 0 := fun e => hq ((ln_eq_zero b _ hb).1 e)
      rw [show ln b (n / b) = (ln b (n / b) - 1) + 1 from by omega, Nat.pow_succ]
      calc b ^ (ln b (n / b) - 1) * b ≤ n / b * b := Nat.mul_le_mul_right _ h
        _ ≤ n := Nat.div_mul_le_self n b

theorem ln_le_of_lt (b n k : Nat) (hb : 2 ≤ b) (h : n < b ^ k) : ln b n ≤ k := by
  by_cases hn : n = 0
  · subst hn; simp [ln_zero]
  · have h1 := pow_ln_le b n hb (by omega)
    have h2 : b ^ (ln b n - 1) < b ^ k := Nat.lt_of_le_of_lt h1 h
    have := (Nat.pow_lt_pow_iff_right (by omega : 1 < b)).1 h2
    omega

theorem lt_ln_of_le (b n k : Nat) (hb : 2 ≤ b) (h : b ^ k ≤ n) : k < ln b n := by
  have h1 := lt_pow_ln b n hb
  exact (Nat.pow_lt_pow_iff_right (by omega : 1 < b)).1 (Nat.lt_of_le_of_lt h h1)

theorem ln_mono (b m n : Nat) (hb : 2 ≤ b) (h : m ≤ n) : ln b m ≤ ln b n :=
  ln_le_of_lt b m _ hb (Nat.lt_of_le_of_lt h (lt_pow_ln b n hb))

theorem ln_mul (b m n : Nat) (hb : 2 ≤ b) : ln b (m * n) ≤ ln b m + ln b n := by
  apply ln_le_of_lt b _ _ hb
  rw [Nat.pow_add]
  exact Nat.mul_lt_mul'' (lt_pow_ln b m hb) (lt_pow_ln b n hb)

theorem ln_add (b m n : Nat) (hb : 2 ≤ b) : ln b (m + n) ≤ max (ln b m) (ln b n) + 1 := by
  apply ln_le_of_lt b _ _ hb
  rw [Nat.pow_succ]
  have h1 : m < b ^ max (ln b m) (ln b n) := Nat.lt_of_lt_of_le (lt_pow_ln b m hb) (Nat.pow_le_pow_right (by omega) (by omega))
  have h2 : n < b ^ max (ln b m) (ln b n) := Nat.lt_of_lt_of_le (lt_pow_ln b n hb) (Nat.pow_le_pow_right (by omega) (by omega))
  have : b ^ max (ln b m) (ln b n) * 2 ≤ b ^ max (ln b m) (ln b n) * b := Nat.mul_le_mul_left _ hb
  omega

theorem ln_one (b : Nat) (hb : 2 ≤ b) : ln b 1 = 1 := by
  rw [ln_pos b 1 hb (by omega), Nat.div_eq_of_lt (by omega)]; rfl

theorem digs_small (b n : Nat) (hb : 2 ≤ b) (h0 : 0 < n) (h : n < b) : digs b n = [n] := by
  rw [digs_pos b n hb h0, Nat.mod_eq_of_lt h, Nat.div_eq_of_lt h]; rfl

theorem length_digs (b n : Nat) : (digs b n).length = ln b n := rfl

/-- Digits without leading zeros compare by their length first. -/
theorem lt_of_ln_lt (b m n : Nat) (hb : 2 ≤ b) (h : ln b m < ln b n) : m < n := by
  apply Nat.lt_of_not_le
  intro hle
  have := ln_mono b n m hb hle
  omega

/-- Of two lists of one length the topmost digit that differs decides. -/
theorem val_lt_of_top (b : Nat) (xs ys : List Nat) (x y : Nat) (zs : List Nat) (hx : Dig b xs) (_hy : Dig b ys) (hl : xs.length = ys.length) (h : x < y) :
    val b (xs ++ x :: zs) < val b (ys ++ y :: zs) := by
  rw [val_append, val_append, hl]
  simp only [val]
  have h1 := val_lt b xs hx
  rw [hl] at h1
  have h2 : b ^ ys.length * (x + b * val b zs) + b ^ ys.length ≤ b ^ ys.length * (y + b * val b zs) := by
    rw [← Nat.mul_succ]; exact Nat.mul_le_mul_left _ (by omega)
  omega

theorem val_take_succ (b : Nat) (xs : List Nat) (k : Nat) (h : k < xs.length) : val b (xs.take (k + 1)) = val b (xs.take k) + b ^ k * xs[k] := by
  rw [List.take_succ_eq_append_getElem h, val_snoc, List.length_take, Nat.min_eq_left (by omega)]

theorem val_drop_step (b : Nat) (xs : List Nat) (k : Nat) (h : k < xs.length) : val b (xs.drop k) = xs[k] + b * val b (xs.drop (k + 1)) := by
  rw [List.drop_eq_getElem_cons h]; rfl

theorem val_split (b : Nat) (xs : List Nat) (k : Nat) (h : k ≤ xs.length) : val b xs = val b (xs.take k) + b ^ k * val b (xs.drop k) := by
  have := val_append b (xs.take k) (xs.drop k)
  rw [List.take_append_drop, List.length_take, Nat.min_eq_left h] at this
  exact this

theorem val_replicate_zero (b n : Nat) : val b (List.replicate n 0) = 0 := by
  induction n with
  | zero => rfl
  | succ n ih => simp [List.replicate_succ, val, ih]

theorem Dig.take {b : Nat} {xs : List Nat} (h : Dig b xs) (k : Nat) : Dig b (xs.take k) := fun x hx => h x (List.mem_of_mem_take hx)
theorem Dig.drop {b : Nat} {xs : List Nat} (h : Dig b xs) (k : Nat) : Dig b (xs.drop k) := fun x hx => h x (List.mem_of_mem_drop hx)
theorem Dig.snoc {b : Nat} {xs : List Nat} {x : Nat} (h : Dig b xs) (hx : x < b) : Dig b (xs ++ [x]) := by
  intro y hy
  rcases List.mem_append.1 hy with hy | hy
  · exact h y hy
  · rcases List.mem_singleton.1 hy with rfl; exact hx
theorem Dig.cons {b : Nat} {xs : List Nat} {x : Nat} (h : Dig b xs) (hx : x < b) : Dig b (x :: xs) := by
  intro y hy
  rcases List.mem_cons.1 hy with rfl | hy
  · exact hx
  · exact h y hy
theorem Dig.get {b : Nat} {xs : List Nat} (h : Dig b xs) (k : Nat) (hk : k < xs.length) : xs[k] < b := h _ (List.getElem_mem hk)

/-- A list of digits with its leading zeros struck. -/
theorem strip (b : Nat) (hb : 2 ≤ b) (xs : List Nat) (hd : Dig b xs) (k : Nat) (hk : k ≤ xs.length) (hz : ∀ j, (h : j < xs.length) → k ≤ j → xs[j] = 0) (hlast : ∀ h : 0 < k, xs[k - 1]'(by omega) ≠ 0) :
    xs.take k = digs b (val b xs) := by
  have hdrop : val b (xs.drop k) = 0 := by
    have : xs.drop k = List.replicate (xs.length - k) 0 := by
      apply List.ext_getElem
      · simp
      · intro i h1 h2
        simp only [List.getElem_drop, List.getElem_replicate]
        exact hz _ (by simp at h1; omega) (by omega)
    rw [this, val_replicate_zero]
  rw [val_split b xs k hk, hdrop]
  simp only [Nat.mul_zero, Nat.add_zero]
  by_cases h0 : k = 0
  · subst h0; simp [val, digs_zero]
  · have hk1 : k - 1 < xs.length := by omega
    have e : xs.take k = xs.take (k - 1) ++ [xs[k - 1]] := by
      have := List.take_succ_eq_append_getElem hk1
      rwa [show k - 1 + 1 = k from by omega] at this
    rw [e]
    exact (digs_val_last b hb _ _ (by rw [← e]; exact hd.take k) (hlast (by omega))).symm

/-- The digit j of x. -/
def dg (b x j : Nat) : Nat := (digs b x).getD j 0

theorem dg_zero (b x : Nat) (hb : 2 ≤ b) : dg b x 0 = x % b := by
  unfold dg
  by_cases h : x = 0
  · subst h; simp [digs_zero]
  · rw [digs_pos b x hb (by omega)]; rfl

theorem dg_succ (b x j : Nat) (hb : 2 ≤ b) : dg b x (j + 1) = dg b (x / b) j := by
  unfold dg
  by_cases h : x = 0
  · subst h; simp [digs_zero]
  · rw [digs_pos b x hb (by omega)]; rfl

theorem dg_eq (b : Nat) (hb : 2 ≤ b) : ∀ (j x : Nat), dg b x j = x / b ^ j % b := by
  intro j
  induction j with
  | zero => intro x; rw [dg_zero b x hb]; simp
  | succ j ih => intro x; rw [dg_succ b x j hb, ih, Nat.div_div_eq_div_mul, Nat.pow_succ, Nat.mul_comm]

theorem dg_lt (b x j : Nat) (hb : 2 ≤ b) : dg b x j < b := by rw [dg_eq b hb]; exact Nat.mod_lt _ (by omega)

theorem dg_high (b x j : Nat) (hb : 2 ≤ b) (h : ln b x ≤ j) : dg b x j = 0 := by
  rw [dg_eq b hb, Nat.div_eq_of_lt (Nat.lt_of_lt_of_le (lt_pow_ln b x hb) (Nat.pow_le_pow_right (by omega) h))]; simp

theorem mod_pow_succ (b x k : Nat) (hb : 2 ≤ b) : x % b ^ (k + 1) = x % b ^ k + b ^ k * dg b x k := by
  rw [dg_eq b hb, Nat.pow_succ, Nat.mod_mul]

theorem mod_pow_ln (b x k : Nat) (hb : 2 ≤ b) (h : ln b x ≤ k) : x % b ^ k = x :=
  Nat.mod_eq_of_lt (Nat.lt_of_lt_of_le (lt_pow_ln b x hb) (Nat.pow_le_pow_right (by omega) h))

theorem add_step {P pre c x y D E d' c' b : Nat} (h : pre + c * P = x + y) (hd : D + E + c = d' + b * c') : (pre + P * d') + c' * (P * b) = (x + P * D) + (y + P * E) := by
  have h2 : P * (D + E + c) = P * (d' + b * c') := by rw [hd]
  simp only [Nat.mul_add] at h2
  rw [show P * (b * c') = c' * (P * b) from by rw [← Nat.mul_assoc, Nat.mul_comm], Nat.mul_comm P c] at h2
  omega

theorem sub_step {P pre c x y D E d' c' b : Nat} (h : pre + y = x + c * P) (hd : d' + c + E = D + b * c') : (pre + P * d') + (y + P * E) = (x + P * D) + c' * (P * b) := by
  have h2 : P * (d' + c + E) = P * (D + b * c') := by rw [hd]
  simp only [Nat.mul_add] at h2
  rw [show P * (b * c') = c' * (P * b) from by rw [← Nat.mul_assoc, Nat.mul_comm], Nat.mul_comm P c] at h2
  omega

end Num
end Go.Proofs.YtbcckgofoknmbaaDoor
