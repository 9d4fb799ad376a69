/-
  Several texts in one: ParseP, LawParse, TextQ.
-/
import Derived.Test.YtmmonglcbkefmaaGreatDoorFmtP
import Derived.Test.YtmmonglcbkefmaaGreatDoorDecA
import Derived.Test.YtmmonglcbkefmaaGreatDoorEqRat
import Derived.Test.YtmmonglcbkefmaaGreatDoorSumQ
import Derived.Test.YtmmonglcbkefmaaGreatDoorPowA
/-
  ParseRat: the model's split and the program's two cuts come to the same answer.
-/
namespace Go.Proofs.YtmmonglcbkefmaaGreatDoor
open Go.RowKit Num

theorem first47 (r : ByteArray) (a n : Nat) : (∀ j, a ≤ j → j < n → byt r j ≠ 47) ∨ ∃ i, a ≤ i ∧ i < n ∧ byt r i = 47 ∧ ∀ j, a ≤ j → j < i → byt r j ≠ 47 := by
  induction n with
  | zero => exact .inl fun j _ hj => absurd hj (Nat.not_lt_zero _)
  | succ n ih =>
    rcases ih with h | ⟨i, h1, h2, h3, h4⟩
    · by_cases hn : a ≤ n ∧ byt r n = 47
      · exact .inr ⟨n, hn.1, by omega, hn.2, fun j h1 h2 => h j h1 h2⟩
      · refine .inl fun j h1 h2 => ?_
        by_cases hj : j = n
        · intro h3; exact hn ⟨by omega, by rw [← hj]; exact h3⟩
        · exact h j h1 (by omega)
    · exact .inr ⟨i, h1, by omega, h3, h4⟩

theorem splS_same (r : ByteArray) (k n : Nat) (hk : k ≤ n) (h : ∀ j, k ≤ j → j < n → byt r j ≠ 47) : splS r n = splS r k := by
  induction n with
  | zero => obtain rfl : k = 0 := by omega
            rfl
  | succ n ih =>
    by_cases hkn : k = n + 1
    · rw [hkn]
    · rw [splS, if_neg (h n (by omega) (by omega))]
      exact ih (by omega) fun j h1 h2 => h j h1 (by omega)

theorem splS_grow (r : ByteArray) (k n : Nat) (hk : k ≤ n) : ∃ qs, (splS r n).1 = (splS r k).1 ++ qs := by
  induction n with
  | zero => obtain rfl : k = 0 := by omega
            exact ⟨[], (List.append_nil _).symm⟩
  | succ n ih =>
    by_cases hkn : k = n + 1
    · exact ⟨[], by rw [hkn, List.append_nil]⟩
    · obtain ⟨qs, hq⟩ := ih (by omega)
      rw [splS]
      split
      · exact ⟨qs ++ [_], by rw [hq, List.append_assoc]⟩
      · exact ⟨qs, hq⟩

theorem occ_iff (l : List UInt8) (j : Nat) : Lib.occAt l [47] j = decide (l[j]? = some 47) := by
  unfold Lib.occAt
  have h : l[j]? = (l.drop j)[0]? := by rw [List.getElem?_drop, Nat.add_zero]
  rw [h]
  cases l.drop j with
  | nil => rfl
  | cons a t =>
    have e : List.isPrefixOf ([] : List UInt8) t = true := by cases t <;> rfl
    show ((47 == a) && List.isPrefixOf [] t) = decide (some a = some 47)
    rw [e, Bool.and_true, Bool.eq_iff_iff, beq_iff_eq, decide_eq_true_eq]
    exact ⟨fun h => by rw [h], fun h => (Option.some.inj h).symm⟩

theorem byt_iff (r : ByteArray) (j : Nat) (hj : j < r.size) (c : UInt8) : byt r j = c.toNat ↔ r.toList[j]? = some c := by
  have hd : j < r.data.toList.length := hj
  rw [Lib.toList_data, List.getElem?_eq_getElem hd, ← byt_eq r j hj]
  constructor
  · intro h
    have : r[j] = c := UInt8.toNat_inj.1 h
    exact congrArg some this
  · intro h
    have h2 : r[j] = c := Option.some.inj h
    rw [h2]

theorem byt_list (r : ByteArray) (j : Nat) (hj : j < r.size) : byt r j = 47 ↔ r.toList[j]? = some 47 := byt_iff r j hj 47

theorem no47 (r : ByteArray) (h : ∀ j, j < r.size → byt r j ≠ 47) : Lib.cut r.toList [47] = (r.toList, [], false) := by
  unfold Lib.cut
  have : Lib.index r.toList [47] = -1 := Lib.index_none fun j hj => by
    rw [occ_iff, decide_eq_false_iff_not]
    intro hc
    by_cases hl : j < r.size
    · exact h j hl ((byt_list r j hl).2 hc)
    · rw [List.getElem?_eq_none (by rw [len_list]; omega)] at hc; cases hc
  rw [this, if_neg (by decide)]

theorem at47 (r : ByteArray) (i : Nat) (hi : i < r.size) (h47 : byt r i = 47) (h : ∀ j, j < i → byt r j ≠ 47) : Lib.cut r.toList [47] = (r.toList.take i, r.toList.drop (i + 1), true) := by
  unfold Lib.cut
  have : Lib.index r.toList [47] = (i : Nat) := Lib.index_first (by rw [len_list]; omega) (by rw [occ_iff, decide_eq_true_eq]; exact (byt_list r i hi).1 h47) fun j hj => by
    rw [occ_iff, decide_eq_false_iff_not]
    intro hc
    exact h j hj ((byt_list r j (by omega)).2 hc)
  rw [this, if_pos (by omega)]
  rfl

theorem prefix45 (s : ByteArray) : Lib.hasPrefix s.toList [45] = sgnOf s := by
  unfold Lib.hasPrefix sgnOf
  by_cases h0 : 0 < s.size
  · have h := byt_iff s 0 h0 45
    have hn := len_list s
    cases hl : s.toList with
    | nil => rw [hl] at hn; simp at hn; omega
    | cons a t =>
      rw [hl] at h
      have e : List.isPrefixOf ([] : List UInt8) t = true := by cases t <;> rfl
      show ((45 == a) && List.isPrefixOf [] t) = _
      rw [e, Bool.and_true, Bool.eq_iff_iff, beq_iff_eq, decide_eq_true_eq]
      constructor
      · intro ha; exact ⟨h0, h.2 (by rw [← ha]; rfl)⟩
      · intro ha; exact (Option.some.inj (h.1 ha.2)).symm
  · have hl : s.toList = [] := List.eq_nil_of_length_eq_zero (by rw [len_list]; omega)
    rw [hl, decide_eq_false (fun h => h0 h.1)]
    rfl

theorem rest_list (s : ByteArray) : (restOf s).toList = Lib.trimPrefix s.toList [45] := by
  unfold restOf Lib.trimPrefix
  rw [prefix45]
  by_cases h : sgnOf s = true
  · rw [if_pos h, if_pos h, drop_text]; rfl
  · rw [if_neg h, if_neg h]

theorem text_of (s : ByteArray) : s.toList = (if sgnOf s = true then [45] else []) ++ (restOf s).toList := by
  rw [rest_list]
  unfold Lib.trimPrefix
  rw [prefix45]
  by_cases h : sgnOf s = true
  · rw [if_pos h, if_pos h]
    have hp : [45].isPrefixOf s.toList = true := (prefix45 s).trans h
    obtain ⟨t, ht⟩ := List.isPrefixOf_iff_prefix.1 hp
    rw [← ht]
    rfl
  · rw [if_neg h, if_neg h]; rfl

theorem eq_of_list {a b : ByteArray} (h : a.toList = b.toList) : a = b := (of_list h).trans (of_list rfl).symm

theorem split_at {l : List UInt8} {i : Nat} (hi : i < l.length) (h : l[i]? = some 47) : l = l.take i ++ 47 :: l.drop (i + 1) := by
  have h1 := List.drop_eq_getElem_cons hi
  rw [List.getElem?_eq_getElem hi] at h
  rw [Option.some.inj h] at h1
  rw [← h1, List.take_append_drop]

theorem extract_text (s : ByteArray) (a b : Nat) : (s.extract a b).toList = (s.toList.drop a).take (b - a) := by
  rw [Lib.toList_data, Lib.toList_data, ByteArray.data_extract, Array.toList_extract]

theorem one_text : (⟨#[49]⟩ : ByteArray).toList = [49] := toList_mk [49]

theorem fmtL_one (b : Bool) (x : ByteArray) : fmtL b x ⟨#[49]⟩ = (if b = true then [45] else []) ++ x.toList := by
  have h : (([49] : List UInt8) == [49]) = true := by decide
  unfold fmtL
  rw [one_text, h]
  exact List.append_nil _

theorem fmtL_len (b : Bool) (x y : ByteArray) : (fmtL b x y).length ≤ (if b = true then [45] else ([] : List UInt8)).length + x.toList.length + (1 + y.toList.length) := by
  have h : (if (y.toList == [49]) = true then ([] : List UInt8) else 47 :: y.toList).length ≤ 1 + y.toList.length := by
    split
    · exact Nat.zero_le _
    · rw [List.length_cons]; omega
  unfold fmtL
  rw [List.length_append, List.length_append]
  omega

theorem slash_invalid (b : Bool) (x y : ByteArray) (j : Nat) (hj : j < y.size) (h : byt y j = 47) : validR b x y = false := by
  cases hv : validR b x y with
  | false => rfl
  | true =>
    have := (isNum_parts (validR_num hv).2.1).2.1 j hj
    omega

theorem parse_same (s N D : ByteArray) (fo : Bool) (hN : N.toList = (Lib.cut (restOf s).toList [47]).1) (hD : D.toList = (Lib.cut (restOf s).toList [47]).2.1) (hfo : fo = (Lib.cut (restOf s).toList [47]).2.2) :
    specRes s (sgnOf s) (restOf s) = cutRes (sgnOf s) fo N D := by
  have htext := text_of s
  obtain ⟨U, hU⟩ : ∃ U, U = restOf s := ⟨_, rfl⟩
  obtain ⟨g, hg⟩ : ∃ g, g = sgnOf s := ⟨_, rfl⟩
  rw [← hU] at hN hD hfo htext ⊢
  rw [← hg] at htext ⊢
  clear hU hg
  have hUl := len_list U
  rcases first47 U 0 U.size with hno | ⟨i, _, hi, h47, hbef⟩
  · rw [no47 U (fun j hj => hno j (Nat.zero_le _) hj)] at hN hD hfo
    have hsp := splS_same U 0 U.size (Nat.zero_le _) hno
    have hp : parts U = [U.extract 0 U.size] := by unfold parts; rw [hsp]; rfl
    have e0 : U.extract 0 U.size = U := eq_of_list (by rw [drop_text]; rfl)
    rw [e0] at hp
    obtain rfl : N = U := eq_of_list hN
    subst hfo
    have h1 : numP N = N := by unfold numP; rw [hp]; rfl
    have h2 : denP N = ⟨#[49]⟩ := by unfold denP; rw [hp, if_neg (by rw [List.length_cons, List.length_nil]; omega)]
    unfold specRes cutRes
    rw [h1, h2, if_neg (by decide : ¬ false = true)]
    have h3 : ((fmtS g N ⟨#[49]⟩).toList == s.toList) = true := by
      rw [beq_iff_eq, fmtS, toList_mk, fmtL_one, htext]
    rw [h3, Bool.and_true]
  · have hi' : i < U.toList.length := by omega
    have hat := (byt_list U i hi).1 h47
    have hsplit := split_at hi' hat
    rw [at47 U i hi h47 (fun j hj => hbef j (Nat.zero_le _) hj)] at hN hD hfo
    simp only at hN hD hfo
    subst hfo
    have hs0 := splS_same U 0 i (Nat.zero_le _) (fun j h1 h2 => hbef j h1 h2)
    have hs1 : splS U (i + 1) = ([U.extract 0 i], i + 1) := by rw [splS, if_pos h47, hs0]; rfl
    have hNe : U.extract 0 i = N := eq_of_list (by rw [take_text, hN])
    have hDl : D.toList.length = U.size - (i + 1) := by rw [hD, List.length_drop, hUl]
    have hDs := len_list D
    rw [hNe] at hs1
    rw [← hN, ← hD] at hsplit
    have hcut : cutRes g true N D = if (D.toList == [49]) = true then noRat else if validR g N D = true then .tuple #[.agg #[.bool g, .string N, .string D], .bool true] else noRat := by
      unfold cutRes; rw [if_pos rfl]
    rw [hcut]
    rcases first47 U (i + 1) U.size with hno2 | ⟨k, hk1, hk2, hk47, hkb⟩
    · have hsp := splS_same U (i + 1) U.size (by omega) hno2
      have hDe : U.extract (i + 1) U.size = D := eq_of_list (by rw [drop_text, hD])
      have hp : parts U = [N, D] := by unfold parts; rw [hsp, hs1, hDe]; rfl
      have h1 : numP U = N := by unfold numP; rw [hp]; rfl
      have h2 : denP U = D := by unfold denP; rw [hp, if_pos (by rw [List.length_cons, List.length_cons, List.length_nil]; omega)]; rfl
      unfold specRes
      rw [h1, h2]
      by_cases hd : (D.toList == [49]) = true
      · rw [if_pos hd, if_neg]
        intro hc
        rw [Bool.and_eq_true, beq_iff_eq, fmtS, toList_mk] at hc
        have hl := congrArg List.length hc.2
        rw [fmtL, hd, if_pos rfl, htext, hsplit] at hl
        simp only [List.length_append, List.length_cons, List.length_nil] at hl
        omega
      · rw [if_neg hd]
        have h3 : ((fmtS g N D).toList == s.toList) = true := by
          rw [beq_iff_eq, fmtS, toList_mk, fmtL, if_neg hd, htext, hsplit, List.append_assoc]
        rw [h3, Bool.and_true]
    · obtain ⟨E, hE⟩ : ∃ E, E = U.extract (i + 1) k := ⟨_, rfl⟩
      have hsk : splS U (k + 1) = ([N] ++ [E], k + 1) := by
        rw [splS, if_pos hk47, splS_same U (i + 1) k hk1 hkb, hs1, hE]
      obtain ⟨qs, hq⟩ := splS_grow U (k + 1) U.size (by omega)
      rw [hsk] at hq
      have hp : parts U = N :: E :: (qs ++ [U.extract (splS U U.size).2 U.size]) := by
        unfold parts; rw [hq]; rfl
      have h1 : numP U = N := by unfold numP; rw [hp]; rfl
      have h2 : denP U = E := by
        unfold denP
        rw [hp, if_pos (by simp only [List.length_cons]; omega)]; rfl
      have hbad : validR g N D = false := by
        refine slash_invalid g N D (k - (i + 1)) (by omega) ((byt_list D _ (by omega)).2 ?_)
        rw [hD, List.getElem?_drop, show i + 1 + (k - (i + 1)) = k by omega]
        exact (byt_list U k hk2).1 hk47
      have hEl : E.toList.length = k - (i + 1) := by
        rw [hE, extract_text, List.length_take, List.length_drop, hUl]; omega
      have hne : ((fmtS g N E).toList == s.toList) = false := by
        rw [beq_eq_false_iff_ne, fmtS, toList_mk]
        intro hc
        have hl := congrArg List.length hc
        have hm := fmtL_len g N E
        rw [htext, hsplit] at hl
        simp only [List.length_append, List.length_cons] at hl
        omega
      unfold specRes
      rw [h1, h2, hne, Bool.and_false, if_neg (by decide), hbad]
      split
      · rfl
      · rw [if_neg (by decide)]

end Go.Proofs.YtmmonglcbkefmaaGreatDoor
/-
  The law on ParseRat: the program answers as the model, whatever the text.
-/
namespace Go.Proofs.YtmmonglcbkefmaaGreatDoor
open Go.RowKit Num

theorem specRes_shape (s : ByteArray) (g : Bool) (r : ByteArray) : ∃ b x y c, specRes s g r = .tuple #[.agg #[.bool b, .string x, .string y], .bool c] := by
  unfold specRes
  split
  · exact ⟨_, _, _, _, rfl⟩
  · exact ⟨_, _, _, _, rfl⟩

theorem cut_len (u : List UInt8) : (Lib.cut u [47]).1.length ≤ u.length ∧ (Lib.cut u [47]).2.1.length ≤ u.length := by
  unfold Lib.cut
  split
  · refine ⟨?_, ?_⟩
    · show (List.take _ u).length ≤ _
      rw [List.length_take]; omega
    · show (List.drop _ u).length ≤ _
      rw [List.length_drop]; omega
  · exact ⟨Nat.le_refl _, Nat.zero_le _⟩

theorem rest_size (s : ByteArray) : (restOf s).size ≤ s.size := by
  unfold restOf
  split
  · exact extract_le _ _ _
  · exact Nat.le_refl _

theorem cell_lt' {W : World} {p : Addr} {v : Value} (h : W.cell? p = some v) : p.block < W.heap.size := by
  unfold World.cell? at h
  rcases Nat.lt_or_ge p.block W.heap.size with h' | h'
  · exact h'
  · rw [Array.getElem?_eq_none h'] at h; cases h

theorem implParse_any (s : ByteArray) (w : World) (m : Int) (hs : s.size ≤ 1048576) (hU : UnitB w) (hT : Tab64 w) (hm : w.cell? ⟨2, 0, none⟩ = some (.int .i64 m)) :
    Calls Tryz.prog 26 #[.string s] w fun e w' => e = .returned (specRes s (sgnOf s) (restOf s)) ∧ Below w.heap.size w w' := by
  have hl := cut_len (restOf s).toList
  have hr := rest_size s
  have hrl := len_list (restOf s)
  obtain ⟨N, hN⟩ : ∃ N : ByteArray, N = ⟨(Lib.cut (restOf s).toList [47]).1.toArray⟩ := ⟨_, rfl⟩
  obtain ⟨D, hD⟩ : ∃ D : ByteArray, D = ⟨(Lib.cut (restOf s).toList [47]).2.1.toArray⟩ := ⟨_, rfl⟩
  have hNl : N.toList = (Lib.cut (restOf s).toList [47]).1 := by rw [hN]; exact toList_mk _
  have hDl : D.toList = (Lib.cut (restOf s).toList [47]).2.1 := by rw [hD]; exact toList_mk _
  have hNs := len_list N
  have hDs := len_list D
  rw [hNl] at hNs
  rw [hDl] at hDs
  rw [parse_same s N D _ hNl hDl rfl]
  have e1 : Lib.trimPrefix s.data.toList [45] = (restOf s).toList := by rw [rest_list, Lib.toList_data]
  have e2 : Lib.hasPrefix s.data.toList [45] = sgnOf s := by rw [← prefix45, Lib.toList_data]
  have e3 : (restOf s).data.toList = (restOf s).toList := (Lib.toList_data _).symm
  exact implParse_cut s w m hs hU hT hm (cell_lt' hm) (restOf s) N D (sgnOf s) _ (by rw [e1]; exact of_list rfl) e2.symm (by rw [e3]; exact hN) (by rw [e3]; exact hD) (by rw [e3]) (by omega) (by omega) (by omega)

end Go.Proofs.YtmmonglcbkefmaaGreatDoor
/-
  What the law on texts, powers and decimals compares. (Pure.)
-/
namespace Go.Proofs.YtmmonglcbkefmaaGreatDoor
open Go.RowKit Num

theorem num_no47 {x : ByteArray} (h : isNum x = true) (j : Nat) (hj : j < x.size) : byt x j ≠ 47 := by
  have := (isNum_parts h).2.1 j hj
  omega

/-- The text of a valid Rat is read back. -/
theorem parse_back {b : Bool} {x y : ByteArray} (h : validR b x y = true) : specRes (fmtS b x y) (sgnOf (fmtS b x y)) (restOf (fmtS b x y)) = .tuple #[.agg #[.bool b, .string x, .string y], .bool true] := by
  obtain ⟨nx, ny, _, _⟩ := validR_num h
  have ht : (fmtS b x y).toList = fmtL b x y := toList_mk _
  have hlx := len_list x
  have hx := (isNum_parts nx).1.1
  have hs : sgnOf (fmtS b x y) = b := by
    rw [← prefix45, ht]
    unfold fmtL Lib.hasPrefix
    cases b
    · have h0 := byt_iff x 0 (by omega) 45
      have hb := (isNum_parts nx).2.1 0 (by omega)
      cases hl : x.toList with
      | nil => rw [hl] at hlx; simp at hlx; omega
      | cons a t =>
        rw [hl] at h0
        have e45 : (45 : UInt8).toNat = 45 := rfl
        have ha : (45 == a) = false := by
          rw [beq_eq_false_iff_ne]
          intro e
          have := h0.2 (by rw [← e]; rfl)
          omega
        simp [List.isPrefixOf, ha]
    · simp [List.isPrefixOf]
  have hr : (restOf (fmtS b x y)).toList = x.toList ++ (if (y.toList == [49]) = true then [] else 47 :: y.toList) := by
    have h1 := text_of (fmtS b x y)
    rw [hs, ht] at h1
    unfold fmtL at h1
    rw [List.append_assoc] at h1
    exact (List.append_cancel_left h1).symm
  by_cases hy : (y.toList == [49]) = true
  · rw [if_pos hy, List.append_nil] at hr
    have hc := no47 x (num_no47 nx)
    rw [parse_same (fmtS b x y) x ⟨#[]⟩ false (by rw [hr, hc]) (by rw [hr, hc]; exact toList_mk []) (by rw [hr, hc]), hs]
    have hy1 : y = ⟨#[49]⟩ := eq_of_list ((eq_of_beq hy).trans one_text.symm)
    unfold cutRes
    rw [if_neg (by decide), ← hy1, if_pos h]
  · rw [if_neg hy] at hr
    have hc : Lib.cut (restOf (fmtS b x y)).toList [47] = (x.toList, y.toList, true) := by
      have hlr := len_list (restOf (fmtS b x y))
      have hlen : (restOf (fmtS b x y)).size = x.size + (1 + y.toList.length) := by rw [← hlr, hr, List.length_append, List.length_cons, hlx]; omega
      have hi : x.size < (restOf (fmtS b x y)).size := by omega
      rw [at47 (restOf (fmtS b x y)) x.size hi ((byt_list _ _ hi).2 (by rw [hr, List.getElem?_append_right (by omega), hlx, Nat.sub_self]; rfl)) (fun j hj e => by
        have h2 := (byt_list _ j (by omega)).1 e
        rw [hr, List.getElem?_append_left (by omega)] at h2
        exact num_no47 nx j hj ((byt_list x j hj).2 h2))]
      rw [hr, ← hlx]
      simp [List.drop_append]
    rw [parse_same (fmtS b x y) x y true (by rw [hc]) (by rw [hc]) (by rw [hc]), hs]
    unfold cutRes
    rw [if_pos rfl, if_neg hy, if_pos h]

theorem powRes_yes {b : Bool} {x y : ByteArray} {n : Int} {rb : Bool} {rx ry : ByteArray} (h : powRes b x y n = .tuple #[.agg #[.bool rb, .string rx, .string ry], .bool true]) :
    validR b x y = true ∧ (0 ≤ n ∧ n ≤ 200) ∧ fits (numOf x ^ n.toNat) (numOf y ^ n.toNat) = true ∧ rb = (b && decide (n.toNat % 2 = 1)) ∧ rx = dec (numOf x ^ n.toNat) ∧ ry = dec (numOf y ^ n.toNat) := by
  unfold powRes at h
  split at h
  · rename_i hv
    rw [Bool.and_eq_true, decide_eq_true_eq] at hv
    unfold ratRes at h
    split at h
    · rename_i hf
      simp [okRat] at h
      exact ⟨hv.1, hv.2, hf, h.1.symm, h.2.1.symm, h.2.2.symm⟩
    · simp [noRat] at h
  · simp [noRat] at h

theorem pow_low {b : Bool} {X Y : Nat} (h : LowO (b, X, Y)) (k : Nat) : LowO (b && decide (k % 2 = 1), X ^ k, Y ^ k) := by
  refine ⟨Nat.pow_pos h.pos, ?_, fun hs => ?_⟩
  · exact Nat.Coprime.pow k k h.gcd
  · show 0 < X ^ k
    have hb : b = true := by simp at hs; exact hs.1
    exact Nat.pow_pos (h.sign hb)

theorem mulO_pow {b : Bool} {X Y : Nat} (h : LowO (b, X, Y)) (k : Nat) : mulO (b && decide (k % 2 = 1)) (X ^ k) (Y ^ k) b X Y = (b && decide ((k + 1) % 2 = 1), X ^ (k + 1), Y ^ (k + 1)) := by
  have h1 := pow_low h (k + 1)
  have hg : Nat.gcd (X ^ (k + 1)) (Y ^ (k + 1)) = 1 := h1.gcd
  unfold mulO
  rw [← Nat.pow_succ, ← Nat.pow_succ, hg, Nat.div_one, Nat.div_one]
  have hs : ((b && decide (k % 2 = 1)) != b && decide (0 < X ^ (k + 1))) = (b && decide ((k + 1) % 2 = 1)) := by
    cases hb : b
    · rfl
    · have hX : 0 < X := h.sign hb
      rw [decide_eq_true (Nat.pow_pos hX : 0 < X ^ (k + 1))]
      rcases Nat.mod_two_eq_zero_or_one k with e | e
      · have e' : (k + 1) % 2 = 1 := by omega
        rw [e, e']; rfl
      · have e' : (k + 1) % 2 = 0 := by omega
        rw [e, e']; rfl
  rw [hs]

/-- A power is the power before, times the number. -/
theorem pow_back {b : Bool} {x y : ByteArray} {n : Int} {rb : Bool} {rx ry : ByteArray} {lb : Bool} {lx ly : ByteArray} (hn : 0 < n) (h : powRes b x y n = .tuple #[.agg #[.bool rb, .string rx, .string ry], .bool true]) (hl : powRes b x y (n - 1) = .tuple #[.agg #[.bool lb, .string lx, .string ly], .bool true]) :
    opRes lb lx ly b x y (mulO lb (numOf lx) (numOf ly) b (numOf x) (numOf y)) = .tuple #[.agg #[.bool rb, .string rx, .string ry], .bool true] := by
  obtain ⟨v, h1, hf, rfl, rfl, rfl⟩ := powRes_yes h
  obtain ⟨_, h2, hf2, rfl, rfl, rfl⟩ := powRes_yes hl
  obtain ⟨k, hk⟩ : ∃ k : Nat, n = (k : Int) + 1 := ⟨(n - 1).toNat, by omega⟩
  subst hk
  have e1 : ((k : Int) + 1).toNat = k + 1 := by omega
  have e2 : ((k : Int) + 1 - 1).toNat = k := by omega
  rw [e1] at hf ⊢
  rw [e2] at hf2 ⊢
  have hlow := low_valid v
  have hv : validR (b && decide (k % 2 = 1)) (dec (numOf x ^ k)) (dec (numOf y ^ k)) = true := validR_dec (pow_low hlow k) hf2
  unfold opRes
  rw [hv, v, numOf_dec, numOf_dec, mulO_pow hlow k]
  unfold ratRes
  rw [Bool.and_self, if_pos rfl, if_pos hf]
  rfl

theorem padL_more (k X Y : Nat) : padL (k + 1) (X * 10 ^ (k + 1) / Y) = padL k (X * 10 ^ k / Y) ++ [UInt8.ofNat (48 + X * 10 ^ (k + 1) / Y % 10)] := by
  rw [padL]
  congr 2
  rw [Nat.div_div_eq_div_mul, Nat.pow_succ, ← Nat.mul_assoc, Nat.mul_div_mul_right _ _ (by omega)]

/-- Decimals extend each other. -/
theorem decTxt_more (b : Bool) (X Y k : Nat) (hk : 0 < k) : ∃ c, decTxt b X Y (k + 1) = decTxt b X Y k ++ [c] := by
  refine ⟨UInt8.ofNat (48 + X * 10 ^ (k + 1) / Y % 10), ?_⟩
  unfold decTxt
  rw [if_pos (by omega : 0 < k + 1), if_pos hk, padL_more k X Y]
  simp

theorem dec_back {b : Bool} {x y : ByteArray} {n : Int} {t : ByteArray} (h0 : 0 < n) (h5 : n < 50) (h : decRes b x y n = .tuple #[.string t, .bool true]) :
    ∃ t' : ByteArray, decRes b x y (n + 1) = .tuple #[.string t', .bool true] ∧ t'.size = t.size + 1 ∧ t'.extract 0 t.size = t := by
  unfold decRes at h
  split at h
  · rename_i hv
    rw [Bool.and_eq_true, decide_eq_true_eq] at hv
    obtain ⟨k, hk⟩ : ∃ k : Nat, n = (k : Int) := ⟨n.toNat, by omega⟩
    subst hk
    rw [Int.toNat_natCast] at h
    simp at h
    obtain ⟨c, hc⟩ := decTxt_more b (numOf x) (numOf y) k (by omega)
    unfold decRes
    rw [hv.1, if_pos (by rw [Bool.true_and]; exact decide_eq_true ⟨by omega, by omega⟩), show ((k : Int) + 1).toNat = k + 1 by omega, hc]
    refine ⟨_, rfl, ?_, ?_⟩
    · subst h
      simp [ByteArray.size]
    · apply eq_of_list
      rw [extract_text, toList_mk, ← h, toList_mk]
      simp [ByteArray.size]
  · simp at h

end Go.Proofs.YtmmonglcbkefmaaGreatDoor
