/-
  ParseRat: the model's split and the program's two cuts come to the same answer.
-/
import Derived.Test.YteefgmnjhlmbiaaDoorParseI
import Derived.Test.YteefgmnjhlmbiaaDoorDecI
namespace Go.Proofs.YteefgmnjhlmbiaaDoor
open Go.RowKit Num

theorem first47 (r : ByteArray) (a n : Nat) : (∀ j, a ≤ j → j < n → byt r j ≠ 47) ∨ ∃ i, a ≤ i ∧ i < n ∧ byt r i = 47 ∧ ∀ j, a ≤ j → j < i → byt r j ≠ 47 := by
  induction n with
  | zero => exact .inl fun j _ hj => absurd hj (Nat.not_lt_zero _)
  | succ n ih =>
    rcases ih with h | ⟨i, h1, h2, h3, h4⟩
    · by_cases hn : a ≤ n ∧ byt r n = 47
      · exact .inr ⟨n, hn.1, by omega, hn.2, fun j h1 h2 => h j h1 h2⟩
      · refine .inl fun j h1 h2 => ?_
        by_cases hj : j = n
        · intro h3; exact hn ⟨by omega, by rw [← hj]; exact h3⟩
        · exact h j h1 (by omega)
    · exact .inr ⟨i, h1, by omega, h3, h4⟩

theorem splS_same (r : ByteArray) (k n : Nat) (hk : k ≤ n) (h : ∀ j, k ≤ j → j < n → byt r j ≠ 47) : splS r n = splS r k := by
  induction n with
  | zero => obtain rfl : k = 0 := by omega
            rfl
  | succ n ih =>
    by_cases hkn : k = n + 1
    · rw [hkn]
    · rw [splS, if_neg (h n (by omega) (by omega))]
      exact ih (by omega) fun j h1 h2 => h j h1 (by omega)

theorem splS_grow (r : ByteArray) (k n : Nat) (hk : k ≤ n) : ∃ qs, (splS r n).1 = (splS r k).1 ++ qs := by
  induction n with
  | zero => obtain rfl : k = 0 := by omega
            exact ⟨[], (List.append_nil _).symm⟩
  | succ n ih =>
    by_cases hkn : k = n + 1
    · exact ⟨[], by rw [hkn, List.append_nil]⟩
    · obtain ⟨qs, hq⟩ := ih (by omega)
      rw [splS]
      split
      · exact ⟨qs ++ [_], by rw [hq, List.append_assoc]⟩
      · exact ⟨qs, hq⟩

theorem occ_iff (l : List UInt8) (j : Nat) : Lib.occAt l [47] j = decide (l[j]? = some 47) := by
  unfold Lib.occAt
  have h : l[j]? = (l.drop j)[0]? := by rw [List.getElem?_drop, Nat.add_zero]
  rw [h]
  cases l.drop j with
  | nil => rfl
  | cons a t =>
    have e : List.isPrefixOf ([] : List UInt8) t = true := by cases t <;> rfl
    show ((47 == a) && List.isPrefixOf [] t) = decide (some a = some 47)
    rw [e, Bool.and_true, Bool.eq_iff_iff, beq_iff_eq, decide_eq_true_eq]
    exact ⟨fun h => by rw [h], fun h => (Option.some.inj h).symm⟩

theorem byt_iff (r : ByteArray) (j : Nat) (hj : j < r.size) (c : UInt8) : byt r j = c.toNat ↔ r.toList[j]? = some c := by
  have hd : j < r.data.toList.length := hj
  rw [Lib.toList_data, List.getElem?_eq_getElem hd, ← byt_eq r j hj]
  constructor
  · intro h
    have : r[j] = c := UInt8.toNat_inj.1 h
    exact congrArg some this
  · intro h
    have h2 : r[j] = c := Option.some.inj h
    rw [h2]

theorem byt_list (r : ByteArray) (j : Nat) (hj : j < r.size) : byt r j = 47 ↔ r.toList[j]? = some 47 := byt_iff r j hj 47

theorem no47 (r : ByteArray) (h : ∀ j, j < r.size → byt r j ≠ 47) : Lib.cut r.toList [47] = (r.toList, [], false) := by
  unfold Lib.cut
  have : Lib.index r.toList [47] = -1 := Lib.index_none fun j hj => by
    rw [occ_iff, decide_eq_false_iff_not]
    intro hc
    by_cases hl : j < r.size
    · exact h j hl ((byt_list r j hl).2 hc)
    · rw [List.getElem?_eq_none (by rw [len_list]; omega)] at hc; cases hc
  rw [this, if_neg (by decide)]

theorem at47 (r : ByteArray) (i : Nat) (hi : i < r.size) (h47 : byt r i = 47) (h : ∀ j, j < i → byt r j ≠ 47) : Lib.cut r.toList [47] = (r.toList.take i, r.toList.drop (i + 1), true) := by
  unfold Lib.cut
  have : Lib.index r.toList [47] = (i : Nat) := Lib.index_first (by rw [len_list]; omega) (by rw [occ_iff, decide_eq_true_eq]; exact (byt_list r i hi).1 h47) fun j hj => by
    rw [occ_iff, decide_eq_false_iff_not]
    intro hc
    exact h j hj ((byt_list r j (by omega)).2 hc)
  rw [this, if_pos (by omega)]
  rfl

theorem prefix45 (s : ByteArray) : Lib.hasPrefix s.toList [45] = sgnOf s := by
  unfold Lib.hasPrefix sgnOf
  by_cases h0 : 0 < s.size
  · have h := byt_iff s 0 h0 45
    have hn := len_list s
    cases hl : s.toList with
    | nil => rw [hl] at hn; simp at hn; omega
    | cons a t =>
      rw [hl] at h
      have e : List.isPrefixOf ([] : List UInt8) t = true := by cases t <;> rfl
      show ((45 == a) && List.isPrefixOf [] t) = _
      rw [e, Bool.and_true, Bool.eq_iff_iff, beq_iff_eq, decide_eq_true_eq]
      constructor
      · intro ha; exact ⟨h0, h.2 (by rw [← ha]; rfl)⟩
      · intro ha; exact (Option.some.inj (h.1 ha.2)).symm
  · have hl : s.toList = [] := List.eq_nil_of_length_eq_zero (by rw [len_list]; omega)
    rw [hl, decide_eq_false (fun h => h0 h.1)]
    rfl

theorem rest_list (s : ByteArray) : (restOf s).toList = Lib.trimPrefix s.toList [45] := by
  unfold restOf Lib.trimPrefix
  rw [prefix45]
  by_cases h : sgnOf s = true
  · rw [if_pos h, if_pos h, drop_text]; rfl
  · rw [if_neg h, if_neg h]

theorem text_of (s : ByteArray) : s.toList = (if sgnOf s = true then [45] else []) ++ (restOf s).toList := by
  rw [rest_list]
  unfold Lib.trimPrefix
  rw [prefix45]
  by_cases h : sgnOf s = true
  · rw [if_pos h, if_pos h]
    have hp : [45].isPrefixOf s.toList = true := (prefix45 s).trans h
    obtain ⟨t, ht⟩ := List.isPrefixOf_iff_prefix.1 hp
    rw [← ht]
    rfl
  · rw [if_neg h, if_neg h]; rfl

theorem eq_of_list {a b : ByteArray} (h : a.toList = b.toList) : a = b := (of_list h).trans (of_list rfl).symm

theorem split_at {l : List UInt8} {i : Nat} (hi : i < l.length) (h : l[i]? = some 47) : l = l.take i ++ 47 :: l.drop (i + 1) := by
  have h1 := List.drop_eq_getElem_cons hi
  rw [List.getElem?_eq_getElem hi] at h
  rw [Option.some.inj h] at h1
  rw [← h1, List.take_append_drop]

theorem extract_text (s : ByteArray) (a b : Nat) : (s.extract a b).toList = (s.toList.drop a).take (b - a) := by
  rw [Lib.toList_data, Lib.toList_data, ByteArray.data_extract, Array.toList_extract]

theorem one_text : (⟨#[49]⟩ : ByteArray).toList = [49] := toList_mk [49]

theorem fmtL_one (b : Bool) (x : ByteArray) : fmtL b x ⟨#[49]⟩ = (if b = true then [45] else []) ++ x.toList := by
  have h : (([49] : List UInt8) == [49]) = true := by decide
  unfold fmtL
  rw [one_text, h]
  exact List.append_nil _

theorem fmtL_len (b : Bool) (x y : ByteArray) : (fmtL b x y).length ≤ (if b = true then [45] else ([] : List UInt8)).length + x.toList.length + (1 + y.toList.length) := by
  have h : (if (y.toList == [49]) = true then ([] : List UInt8) else 47 :: y.toList).length ≤ 1 + y.toList.length := by
    split
    · exact Nat.zero_le _
    · rw [List.length_cons]; omega
  unfold fmtL
  rw [List.length_append, List.length_append]
  omega

theorem slash_invalid (b : Bool) (x y : ByteArray) (j : Nat) (hj : j < y.size) (h : byt y j = 47) : validR b x y = false := by
  cases hv : validR b x y with
  | false => rfl
  | true =>
    have := (isNum_parts (validR_num hv).2.1).2.1 j hj
    omega

theorem parse_same (s N D : ByteArray) (fo : Bool) (hN : N.toList = (Lib.cut (restOf s).toList [47]).1) (hD : D.toList = (Lib.cut (restOf s).toList [47]).2.1) (hfo : fo = (Lib.cut (restOf s).toList [47]).2.2) :
    specRes s (sgnOf s) (restOf s) = cutRes (sgnOf s) fo N D := by
  have htext := text_of s
  obtain ⟨U, hU⟩ : ∃ U, U = restOf s := ⟨_, rfl⟩
  obtain ⟨g, hg⟩ : ∃ g, g = sgnOf s := ⟨_, rfl⟩
  rw [← hU] at hN hD hfo htext ⊢
  rw [← hg] at htext ⊢
  clear hU hg
  have hUl := len_list U
  rcases first47 U 0 U.size with hno | ⟨i, _, hi, h47, hbef⟩
  · rw [no47 U (fun j hj => hno j (Nat.zero_le _) hj)] at hN hD hfo
    have hsp := splS_same U 0 U.size (Nat.zero_le _) hno
    have hp : parts U = [U.extract 0 U.size] := by unfold parts; rw [hsp]; rfl
    have e0 : U.extract 0 U.size = U := eq_of_list (by rw [drop_text]; rfl)
    rw [e0] at hp
    obtain rfl : N = U := eq_of_list hN
    subst hfo
    have h1 : numP N = N := by unfold numP; rw [hp]; rfl
    have h2 : denP N = ⟨#[49]⟩ := by unfold denP; rw [hp, if_neg (by rw [List.length_cons, List.length_nil]; omega)]
    unfold specRes cutRes
    rw [h1, h2, if_neg (by decide : ¬ false = true)]
    have h3 : ((fmtS g N ⟨#[49]⟩).toList == s.toList) = true := by
      rw [beq_iff_eq, fmtS, toList_mk, fmtL_one, htext]
    rw [h3, Bool.and_true]
  · have hi' : i < U.toList.length := by omega
    have hat := (byt_list U i hi).1 h47
    have hsplit := split_at hi' hat
    rw [at47 U i hi h47 (fun j hj => hbef j (Nat.zero_le _) hj)] at hN hD hfo
    simp only at hN hD hfo
    subst hfo
    have hs0 := splS_same U 0 i (Nat.zero_le _) (fun j h1 h2 => hbef j h1 h2)
    have hs1 : splS U (i + 1) = ([U.extract 0 i], i + 1) := by rw [splS, if_pos h47, hs0]; rfl
    have hNe : U.extract 0 i = N := eq_of_list (by rw [take_text, hN])
    have hDl : D.toList.length = U.size - (i + 1) := by rw [hD, List.length_drop, hUl]
    have hDs := len_list D
    rw [hNe] at hs1
    rw [← hN, ← hD] at hsplit
    have hcut : cutRes g true N D = if (D.toList == [49]) = true then noRat else if validR g N D = true then .tuple #[.agg #[.bool g, .string N, .string D], .bool true] else noRat := by
      unfold cutRes; rw [if_pos rfl]
    rw [hcut]
    rcases first47 U (i + 1) U.size with hno2 | ⟨k, hk1, hk2, hk47, hkb⟩
    · have hsp := splS_same U (i + 1) U.size (by omega) hno2
      have hDe : U.extract (i + 1) U.size = D := eq_of_list (by rw [drop_text, hD])
      have hp : parts U = [N, D] := by unfold parts; rw [hsp, hs1, hDe]; rfl
      have h1 : numP U = N := by unfold numP; rw [hp]; rfl
      have h2 : denP U = D := by unfold denP; rw [hp, if_pos (by rw [List.length_cons, List.length_cons, List.length_nil]; omega)]; rfl
      unfold specRes
      rw [h1, h2]
      by_cases hd : (D.toList == [49]) = true
      · rw [if_pos hd, if_neg]
        intro hc
        rw [Bool.and_eq_true, beq_iff_eq, fmtS, toList_mk] at hc
        have hl := congrArg List.length hc.2
        rw [fmtL, hd, if_pos rfl, htext, hsplit] at hl
        simp only [List.length_append, List.length_cons, List.length_nil] at hl
        omega
      · rw [if_neg hd]
        have h3 : ((fmtS g N D).toList == s.toList) = true := by
          rw [beq_iff_eq, fmtS, toList_mk, fmtL, if_neg hd, htext, hsplit, List.append_assoc]
        rw [h3, Bool.and_true]
    · obtain ⟨E, hE⟩ : ∃ E, E = U.extract (i + 1) k := ⟨_, rfl⟩
      have hsk : splS U (k + 1) = ([N] ++ [E], k + 1) := by
        rw [splS, if_pos hk47, splS_same U (i + 1) k hk1 hkb, hs1, hE]
      obtain ⟨qs, hq⟩ := splS_grow U (k + 1) U.size (by omega)
      rw [hsk] at hq
      have hp : parts U = N :: E :: (qs ++ [U.extract (splS U U.size).2 U.size]) := by
        unfold parts; rw [hq]; rfl
      have h1 : numP U = N := by unfold numP; rw [hp]; rfl
      have h2 : denP U = E := by
        unfold denP
        rw [hp, if_pos (by simp only [List.length_cons]; omega)]; rfl
      have hbad : validR g N D = false := by
        refine slash_invalid g N D (k - (i + 1)) (by omega) ((byt_list D _ (by omega)).2 ?_)
        rw [hD, List.getElem?_drop, show i + 1 + (k - (i + 1)) = k by omega]
        exact (byt_list U k hk2).1 hk47
      have hEl : E.toList.length = k - (i + 1) := by
        rw [hE, extract_text, List.length_take, List.length_drop, hUl]; omega
      have hne : ((fmtS g N E).toList == s.toList) = false := by
        rw [beq_eq_false_iff_ne, fmtS, toList_mk]
        intro hc
        have hl := congrArg List.length hc
        have hm := fmtL_len g N E
        rw [htext, hsplit] at hl
        simp only [List.length_append, List.length_cons] at hl
        omega
      unfold specRes
      rw [h1, h2, hne, Bool.and_false, if_neg (by decide), hbad]
      split
      · rfl
      · rw [if_neg (by decide)]

end Go.Proofs.YteefgmnjhlmbiaaDoor
