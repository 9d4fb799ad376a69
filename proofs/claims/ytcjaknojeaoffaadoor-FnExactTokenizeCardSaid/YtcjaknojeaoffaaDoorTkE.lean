/-
  The program's and the model's tokens.
-/
import Derived.Test.YtcjaknojeaoffaaDoorTkD
namespace Go.Proofs.YtcjaknojeaoffaaDoor
open Go.RowKit Num

set_option maxRecDepth 100000 in
set_option maxHeartbeats 3200000 in
theorem implTok_any (s : ByteArray) (w : World) (hs : s.size ≤ 1048576) :
    Calls Tryd.prog 8 #[.string s] w (TkPost s w) := by
  have C := Lib.hid (scan_any s w hs)
  cases ho : okT s with
  | true =>
    go_enter Tryd.func8, Tryd.ntmps8
    go_upto_region 2 with (go_at_call 20; refine C.out.mono ?_; rintro e w1 ⟨⟨_, v, rfl, h⟩ | ⟨h', _⟩, hb⟩; rotate_left; (rw [ho] at h'; cases h'))
    go_quiet (fail)
    go_wp2_with fail
    go_ret2
    exact ⟨⟨v, by rw [ho]; rfl, own_belowT h (below_drewN _ (Below.refl _ _)) (Nat.le_refl _)⟩, below_drewN _ hb⟩
  | false =>
    have HR : Hid (resT s = []) := Lib.hid (by rw [resT, if_neg (by rw [ho]; simp)])
    go_enter Tryd.func8, Tryd.ntmps8
    go_upto_region 2 with (go_at_call 20; refine C.out.mono ?_; rintro e w1 ⟨⟨h', _⟩ | ⟨_, x, rfl⟩, hb⟩; (rw [ho] at h'; cases h'))
    go_quiet (fail)
    go_wp2_with fail
    go_ret2
    exact ⟨⟨_, by rw [ho]; rfl, by rw [HR.out]; exact World.ownsRow_nil _ _ _ _⟩, below_drewN _ hb⟩

/-- What may stand in a text, byte by byte. -/
theorem okB_eq : ∀ n : Nat, n < 256 → okB (n : Int) = (isW (n : Int) || n == 58 || n == 32 || n == 10 || symL.contains n) := of_decide_eq_true (by kernel_rfl)

theorem tg_not {a b : Int} (h1 : isW a = false) (h2 : a ≠ 58) : tg a b = false := by
  rw [tg, h1, Bool.false_and, Bool.false_or, beq_eq_false_iff_ne.2 h2, Bool.false_and]
theorem tg_word {a b : Int} (h1 : isW a = true) (h2 : isW b = false) : tg a b = false := by
  have h3 : a ≠ 58 := fun e => by rw [e] at h1; exact absurd h1 (by decide)
  rw [tg, h2, Bool.and_false, Bool.false_or, beq_eq_false_iff_ne.2 h3, Bool.false_and]
theorem tg_words {a b : Int} (h1 : isW a = true) (h2 : isW b = true) : tg a b = true := by rw [tg, h1, h2]; rfl

theorem la_succ (s : ByteArray) (k : Nat) : la s (k + 1) = bt s k := by rw [la, if_neg (by omega)]; rfl

theorem ext_list (s : ByteArray) (a e : Nat) : (s.extract a e).data.toList = (s.data.toList.take e).drop a := by
  rw [ByteArray.data_extract, Array.toList_extract, List.extract_eq_drop_take', List.drop_take]

/-- A piece whose first byte is no separator is a token. -/
theorem pushT_tok {s : ByteArray} {ts : List ByteArray} {i e : Nat} (hi : i < e) (hn : i < s.size) (h1 : bt s i ≠ 32) (h2 : bt s i ≠ 10) : pushT ts (s.extract i e) = ts ++ [s.extract i e] := by
  rw [pushT, if_neg]
  intro h
  rw [List.all_eq_true] at h
  have hb := byte_at hn
  have hm : (s[i]'hn) ∈ (s.extract i e).data.toList := by
    rw [ext_list]
    apply List.mem_of_getElem? (i := 0)
    rw [List.getElem?_drop, List.getElem?_take, if_pos (by omega)]
    exact hb
  have := h _ hm
  rw [bt_at hn] at h1 h2
  simp only [Bool.or_eq_true, beq_iff_eq] at this
  rcases this with e | e
  · rw [e] at h1; exact h1 rfl
  · rw [e] at h2; exact h2 rfl
theorem u8_eq {b c : UInt8} (h : b.toNat = c.toNat) : b = c := UInt8.toNat_inj.1 h
/-- A separator is none. -/
theorem pushT_sep {s : ByteArray} {ts : List ByteArray} {i : Nat} (hn : i < s.size) (h : bt s i = 32 ∨ bt s i = 10) : pushT ts (s.extract i (i + 1)) = ts := by
  rw [pushT, if_pos]
  rw [List.all_eq_true]
  intro b hb
  rw [ext_list] at hb
  obtain ⟨j, hj⟩ := List.mem_iff_getElem?.1 hb
  rw [List.getElem?_drop, List.getElem?_take] at hj
  split at hj
  · obtain rfl : j = 0 := by omega
    rw [Nat.add_zero, byte_at hn] at hj
    cases hj
    rw [bt_at hn] at h
    rcases h with h | h
    · have e : s[i]'hn = 32 := u8_eq (show _ = 32 by omega)
      rw [e]; rfl
    · have e : s[i]'hn = 10 := u8_eq (show _ = 10 by omega)
      rw [e]; rfl
  · cases hj

/-- A piece may begin at i. -/
def Cut (s : ByteArray) (i : Nat) : Prop := i = s.size ∨ tg (la s i) (bt s i) = false
theorem Cut.st {s : ByteArray} {i : Nat} (h : Cut s i) (hi : i < s.size) : stT s (i + 1) = (i, finT s i) := by
  rcases h with h | h
  · omega
  · exact stT_cut h
theorem Cut.zero (s : ByteArray) : Cut s 0 := .inr (tg_not (by rw [la, if_pos rfl]; decide) (by rw [la, if_pos rfl]; decide))
theorem finT_of {s : ByteArray} {i e : Nat} (h : stT s e = (i, finT s i)) : finT s e = pushT (finT s i) (s.extract i e) := by
  rw [finT, h]
theorem finT_len (s : ByteArray) (k : Nat) : (finT s k).length ≤ k + 1 := by
  have h1 := stT_len s k
  have h2 := pushT_len (stT s k).2 (s.extract (stT s k).1 k)
  rw [finT]
  omega

theorem bnot_t {r : Bool} (h : (!r) = true) : r = false := by cases r with | false => rfl | true => cases h
theorem bnot_f {r : Bool} (h : (!r) = false) : r = true := by cases r with | true => rfl | false => cases h

/-- The state of the model's walk at the place i. -/
def MkI (s : ByteArray) (w : World) (i : Nat) (v : Value) (wr : World) : Prop :=
  wr.ownsRow w.heap.size 9 1 v (finT s i).length (strV (finT s i)) ∧ Below w.heap.size w wr

theorem MkI.below {s : ByteArray} {w wr w' : World} {i : Nat} {v : Value} (h : MkI s w i v wr) (hb : Below wr.heap.size wr w') : MkI s w i v w' :=
  ⟨own_belowT h.1 hb (Nat.le_refl _), h.2.trans (hb.mono h.2.size)⟩

theorem MkI.push {s : ByteArray} {w wr w3 : World} {i e : Nat} {v v' : Value} {o : Obj} (h : MkI s w i v wr) (hf : finT s e = finT s i ++ [s.extract i e])
    (hown' : w3.ownsRow w.heap.size 9 1 v' ((finT s i).length + 1) (strV (finT s i) ++ [.string (s.extract i e)])) (hgrow : (wr.alloc o).grownBy w3 v.ownBlock) : MkI s w e v' w3 :=
  ⟨by rw [hf, List.length_append, strV, List.map_append]; exact hown', below_grownT h.2 h.2.size (Nat.le_refl _) h.1 hgrow⟩

theorem finT_zero (s : ByteArray) : finT s 0 = [] := by
  rw [finT, stT, pushT, if_pos]
  rw [ext_list]
  simp

set_option maxRecDepth 100000 in
set_option maxHeartbeats 12800000 in
theorem specTokens_any (s : ByteArray) (w : World) (hs : s.size ≤ 6000) :
    Calls Tryd.prog 19 #[.string s] w (TkPost s w) := by
  obtain ⟨i0, hi0, hz0, hz1, hz2⟩ := info_parts Tryd.infoStrT
  have CW : Hid (∀ (x : Int) W, Calls Tryd.prog 32 #[.int .u8 x] W fun e w' => e = .returned (.bool (isW x)) ∧ W = w') := Lib.hid fun x W => (word_any x W).mono fun e w' ⟨a, b⟩ => ⟨a, b.symm⟩
  have CS : Hid (∀ (x : Nat) W, _) := Lib.hid fun x W => symbol_any x W
  go_enter Tryd.func19, Tryd.ntmps19
  go_wp2_with fail
  go_loopg [4, 5] s.size (fun q v a wr => ∃ i : Nat, i ≤ s.size ∧ q = s.size - i ∧ MkI s w i v wr ∧ a = .int .i64 (i : Nat) ∧ Hid (Cut s i) ∧ Hid (∀ j, j < i → okB (bt s j) = true))
  case atStart => exact ⟨0, by omega, by omega, ⟨by rw [finT_zero]; exact World.ownsRow_nil _ _ _ _, Below.refl _ _⟩, rfl, Lib.hid (Cut.zero s), Lib.hid fun j h => by omega⟩
  case round =>
    obtain ⟨i, hi, hgk, hI, rfl, hc, hq⟩ := hrel
    have hfl := finT_len s i
    by_cases hlt : i < s.size
    · obtain ⟨x, hx⟩ : ∃ x : Nat, x = (s[i]'hlt).toNat := ⟨_, rfl⟩
      have hxb : bt s i = (x : Int) := by rw [bt_at hlt, hx]
      have hx256 : x < 256 := by rw [hx]; exact UInt8.toNat_lt _
      have hst : Hid (stT s (i + 1) = (i, finT s i)) := Lib.hid (hc.out.st hlt)
      have hok := okB_eq x hx256
      have hxe : (s[i]'hlt).toNat = x := hx.symm
      have HXB := Lib.hid hxb
      have hq' : Hid (okB (x : Int) = true → ∀ j, j < i + 1 → okB (bt s j) = true) := Lib.hid fun h j hj => by
        by_cases hji : j < i
        · exact hq.out j hji
        · obtain rfl : j = i := by omega
          rw [HXB.out]; exact h
      have HOK := Lib.hid hok
      clear hx hxb hok
      have hone : IntKind.i64.wrap ((i : Int) + 1) = (i : Int) + 1 := IntWalk.i64_in _ (by omega)
      by_cases x32 : x = 32
      · have b32 : ((x : Int) == 32) = true := by rw [x32]; rfl
        have HF : Hid (finT s (i + 1) = finT s i) := Lib.hid (by rw [finT_of hst.out, pushT_sep hlt (.inl (by rw [HXB.out, x32]; rfl))])
        have HC : Hid (Cut s (i + 1)) := Lib.hid (.inr (tg_not (by rw [la_succ, HXB.out, x32]; decide) (by rw [la_succ, HXB.out, x32]; decide)))
        have HQ := Lib.hid (hq'.out (by rw [x32]; decide))
        clear x32
        go_wp2_with fail
        go_roundg (s.size - (i + 1))
        case rel => exact ⟨i + 1, by omega, rfl, by rw [MkI, HF.out]; exact hI, by go_num, HC, HQ⟩
        case measure => omega
      · have b32 : ((x : Int) == 32) = false := by rw [beq_eq_false_iff_ne]; omega
        by_cases x10 : x = 10
        · have b10 : ((x : Int) == 10) = true := by rw [x10]; rfl
          have HF : Hid (finT s (i + 1) = finT s i) := Lib.hid (by rw [finT_of hst.out, pushT_sep hlt (.inr (by rw [HXB.out, x10]; rfl))])
          have HC : Hid (Cut s (i + 1)) := Lib.hid (.inr (tg_not (by rw [la_succ, HXB.out, x10]; decide) (by rw [la_succ, HXB.out, x10]; decide)))
          have HQ := Lib.hid (hq'.out (by rw [x10]; decide))
          clear x10 x32
          go_wp2_with fail
          go_roundg (s.size - (i + 1))
          case rel => exact ⟨i + 1, by omega, rfl, by rw [MkI, HF.out]; exact hI, by go_num, HC, HQ⟩
          case measure => omega
        · have b10 : ((x : Int) == 10) = false := by rw [beq_eq_false_iff_ne]; omega
          have HT : Hid (∀ e, i < e → stT s e = (i, finT s i) → finT s e = finT s i ++ [s.extract i e]) := Lib.hid fun e he h => by
            rw [finT_of h, pushT_tok he hlt (by rw [HXB.out]; omega) (by rw [HXB.out]; omega)]
          cases hw : isW (x : Int) with
          | true =>
            have HQ := Lib.hid (hq'.out (by rw [okB, hw]; rfl))
            have HW := Lib.hid hw
            go_wp2_with (go_at_call 32; refine (CW.out _ _).mono ?_; rintro e w1 ⟨rfl, rfl⟩)
            go_loopg [6] (s.size - (i + 1)) (fun q b wq => ∃ j : Nat, i < j ∧ j ≤ s.size ∧ q = s.size - j ∧ b = .int .i64 (j : Nat) ∧ Hid (stT s j = (i, finT s i)) ∧ Hid (isW (la s j) = true) ∧ Hid (∀ m, m < j → okB (bt s m) = true) ∧ wq = wr)
            case atStart => exact ⟨i + 1, by omega, by omega, rfl, by go_num, hst, Lib.hid (by rw [la_succ, HXB.out]; exact HW.out), HQ, rfl⟩
            case round =>
              rename World => w7
              obtain ⟨j, hij, hjn, hgk2, rfl, hsj, hwj, hqj, rfl⟩ := hrel
              by_cases hj0 : j < s.size
              · have hbj := bt_at hj0
                obtain ⟨y, hy⟩ : ∃ y : Nat, y = (s[j]'hj0).toNat := ⟨_, rfl⟩
                have hye : (s[j]'hj0).toNat = y := hy.symm
                rw [hye] at hbj
                have HBJ := Lib.hid hbj
                clear hy hbj
                cases hwy : isW (y : Int) with
                | true =>
                  have HS : Hid (stT s (j + 1) = (i, finT s i)) := Lib.hid (by rw [stT_join (tg_words hwj.out (by rw [HBJ.out]; exact hwy)), hsj.out])
                  have HQJ : Hid (∀ m, m < j + 1 → okB (bt s m) = true) := Lib.hid fun m hm => by
                    by_cases hmj : m < j
                    · exact hqj.out m hmj
                    · obtain rfl : m = j := by omega
                      rw [HBJ.out, okB, hwy]; rfl
                  go_wp2_with (go_at_call 32; refine (CW.out _ _).mono ?_; rintro e w1 ⟨rfl, rfl⟩)
                  go_roundg (s.size - (j + 1))
                  case rel => exact ⟨j + 1, by omega, by omega, rfl, by go_num, HS, Lib.hid (by rw [la_succ, HBJ.out]; exact hwy), HQJ, rfl⟩
                  case measure => omega
                | false =>
                  have HF := Lib.hid (HT.out j hij hsj.out)
                  have HC : Hid (Cut s j) := Lib.hid (.inr (tg_word hwj.out (by rw [HBJ.out]; exact hwy)))
                  have hsc := slice_two s i j (by omega) (by omega)
                  go_wp2_with (first
                    | (go_at_call 32; refine (CW.out _ _).mono ?_; rintro e w1 ⟨rfl, rfl⟩)
                    | (at_builtin; refine wpList_append_own _ rfl _ _ 25 rfl w.heap.size 9 i0 (.string ⟨#[]⟩) 1 16 Tryd.underlying25 hi0 hz0 hz1 hz2 rfl (by decide) _ _ _ rfl (hI.1.alloc _) ⟨w7.heap.size, 0, none⟩ 1 1 [.string (s.extract i (j))] rfl rfl (cell_one_new _ _ _) (by intro u hu; simp at hu; subst hu; rfl) (by unfold maxLen; omega) (by omega) (by have := hI.2.size; simp; omega) ?_))
                  intro v' w3 hown' hgrow _
                  have hI3 := hI.push HF.out hown' hgrow
                  clear hown' hgrow
                  go_wp2_with fail
                  go_roundg (s.size - j)
                  case rel => exact ⟨j, by omega, rfl, hI3, rfl, HC, hqj⟩
                  case measure => omega
              · obtain rfl : j = s.size := by omega
                have HF := Lib.hid (HT.out s.size hij hsj.out)
                have HC : Hid (Cut s s.size) := Lib.hid (.inl rfl)
                have hsc := slice_two s i s.size (by omega) (by omega)
                go_wp2_with (at_builtin; refine wpList_append_own _ rfl _ _ 25 rfl w.heap.size 9 i0 (.string ⟨#[]⟩) 1 16 Tryd.underlying25 hi0 hz0 hz1 hz2 rfl (by decide) _ _ _ rfl (hI.1.alloc _) ⟨w7.heap.size, 0, none⟩ 1 1 [.string (s.extract i (s.size))] rfl rfl (cell_one_new _ _ _) (by intro u hu; simp at hu; subst hu; rfl) (by unfold maxLen; omega) (by omega) (by have := hI.2.size; simp; omega) ?_)
                intro v' w3 hown' hgrow _
                have hI3 := hI.push HF.out hown' hgrow
                clear hown' hgrow
                go_wp2_with fail
                go_roundg (s.size - s.size)
                case rel => exact ⟨s.size, by omega, rfl, hI3, rfl, HC, hqj⟩
                case measure => omega
          | false =>
            by_cases x58 : x = 58
            · have b58 : ((x : Int) == 58) = true := by rw [x58]; rfl
              have HQ := Lib.hid (hq'.out (by rw [x58]; decide))
              have HL : Hid (la s (i + 1) = 58) := Lib.hid (by rw [la_succ, HXB.out, x58]; rfl)
              have HF := Lib.hid (HT.out (i + 1) (by omega) hst.out)
              have hsc := slice_two s i (i + 1) (by omega) (by omega)
              clear x58
              by_cases hi1 : i + 1 < s.size
              · have hbj := bt_at hi1
                obtain ⟨y, hy⟩ : ∃ y : Nat, y = (s[i + 1]'hi1).toNat := ⟨_, rfl⟩
                have hye : (s[i + 1]'hi1).toNat = y := hy.symm
                rw [hye] at hbj
                have HBJ := Lib.hid hbj
                clear hy hbj
                by_cases y61 : y = 61
                · have c61 : ((y : Int) == 61) = true := by rw [y61]; rfl
                  have hi2 : i + 2 ≤ s.size := by omega
                  have HS2 : Hid (stT s (i + 2) = (i, finT s i)) := Lib.hid (by rw [stT_join (k := i + 1) (by rw [HL.out, HBJ.out, y61]; decide), hst.out])
                  have HF2 := Lib.hid (HT.out (i + 2) (by omega) HS2.out)
                  have HC : Hid (Cut s (i + 2)) := Lib.hid (.inr (tg_not (by rw [la_succ, HBJ.out, y61]; decide) (by rw [la_succ, HBJ.out, y61]; decide)))
                  have HQ2 : Hid (∀ m, m < i + 2 → okB (bt s m) = true) := Lib.hid fun m hm => by
                    by_cases hmj : m < i + 1
                    · exact HQ.out m hmj
                    · obtain rfl : m = i + 1 := by omega
                      rw [HBJ.out, y61]; decide
                  have hsc2 : ∀ W, (Instr.slice 9 (.string s) (some (.int .i64 (i : Nat))) (some (.int .i64 ((i : Int) + 1 + 1))) none).run Tryd.prog W = .ok (.string (s.extract i (i + 2))) W := fun W => by
                    have h := slice_two s i (i + 2) (by omega) hi2 W
                    rw [← h]
                    congr 5
                  have htwo : IntKind.i64.wrap ((i : Int) + 1 + 1) = (i : Int) + 1 + 1 := IntWalk.i64_in _ (by omega)
                  clear hsc y61 HF
                  go_wp2_with (first
                    | (go_at_call 32; refine (CW.out _ _).mono ?_; rintro e w1 ⟨rfl, rfl⟩)
                    | (at_builtin; refine wpList_append_own _ rfl _ _ 25 rfl w.heap.size 9 i0 (.string ⟨#[]⟩) 1 16 Tryd.underlying25 hi0 hz0 hz1 hz2 rfl (by decide) _ _ _ rfl (hI.1.alloc _) ⟨wr.heap.size, 0, none⟩ 1 1 [.string (s.extract i (i + 2))] rfl rfl (cell_one_new _ _ _) (by intro u hu; simp at hu; subst hu; rfl) (by unfold maxLen; omega) (by omega) (by have := hI.2.size; simp; omega) ?_))
                  intro v' w3 hown' hgrow _
                  have hI3 := hI.push HF2.out hown' hgrow
                  clear hown' hgrow
                  go_wp2_with fail
                  go_roundg (s.size - (i + 2))
                  case rel => exact ⟨i + 2, by omega, rfl, hI3, by go_num, HC, HQ2⟩
                  case measure => omega
                · have c61 : ((y : Int) == 61) = false := by rw [beq_eq_false_iff_ne]; omega
                  have HC : Hid (Cut s (i + 1)) := Lib.hid (.inr (by rw [HL.out, HBJ.out, tg, show isW 58 = false from by decide, Bool.false_and, Bool.false_or, c61, Bool.and_false]))
                  have hsc1 : ∀ W, (Instr.slice 9 (.string s) (some (.int .i64 (i : Nat))) (some (.int .i64 ((i : Int) + 1))) none).run Tryd.prog W = .ok (.string (s.extract i (i + 1))) W := hsc
                  clear hsc y61
                  go_wp2_with (first
                    | (go_at_call 32; refine (CW.out _ _).mono ?_; rintro e w1 ⟨rfl, rfl⟩)
                    | (at_builtin; refine wpList_append_own _ rfl _ _ 25 rfl w.heap.size 9 i0 (.string ⟨#[]⟩) 1 16 Tryd.underlying25 hi0 hz0 hz1 hz2 rfl (by decide) _ _ _ rfl (hI.1.alloc _) ⟨wr.heap.size, 0, none⟩ 1 1 [.string (s.extract i (i + 1))] rfl rfl (cell_one_new _ _ _) (by intro u hu; simp at hu; subst hu; rfl) (by unfold maxLen; omega) (by omega) (by have := hI.2.size; simp; omega) ?_))
                  intro v' w3 hown' hgrow _
                  have hI3 := hI.push HF.out hown' hgrow
                  clear hown' hgrow
                  go_wp2_with fail
                  go_roundg (s.size - (i + 1))
                  case rel => exact ⟨i + 1, by omega, rfl, hI3, by go_num, HC, HQ⟩
                  case measure => omega
              · have HC : Hid (Cut s (i + 1)) := Lib.hid (.inl (by omega))
                have hii : ¬ ((i : Int) + 1 < (s.size : Int)) := by omega
                have hsc1 : ∀ W, (Instr.slice 9 (.string s) (some (.int .i64 (i : Nat))) (some (.int .i64 ((i : Int) + 1))) none).run Tryd.prog W = .ok (.string (s.extract i (i + 1))) W := hsc
                clear hsc
                go_wp2_with (first
                  | (go_at_call 32; refine (CW.out _ _).mono ?_; rintro e w1 ⟨rfl, rfl⟩)
                  | (at_builtin; refine wpList_append_own _ rfl _ _ 25 rfl w.heap.size 9 i0 (.string ⟨#[]⟩) 1 16 Tryd.underlying25 hi0 hz0 hz1 hz2 rfl (by decide) _ _ _ rfl (hI.1.alloc _) ⟨wr.heap.size, 0, none⟩ 1 1 [.string (s.extract i (i + 1))] rfl rfl (cell_one_new _ _ _) (by intro u hu; simp at hu; subst hu; rfl) (by unfold maxLen; omega) (by omega) (by have := hI.2.size; simp; omega) ?_))
                intro v' w3 hown' hgrow _
                have hI3 := hI.push HF.out hown' hgrow
                clear hown' hgrow
                go_wp2_with fail
                go_roundg (s.size - (i + 1))
                case rel => exact ⟨i + 1, by omega, rfl, hI3, by go_num, HC, HQ⟩
                case measure => omega
            · have b58 : ((x : Int) == 58) = false := by rw [beq_eq_false_iff_ne]; omega
              have hsc1 : ∀ W, (Instr.slice 9 (.string s) (some (.int .i64 (i : Nat))) (some (.int .i64 ((i : Int) + 1))) none).run Tryd.prog W = .ok (.string (s.extract i (i + 1))) W := slice_two s i (i + 1) (by omega) (by omega)
              have HX58 := Lib.hid x58
              have HX32 := Lib.hid x32
              have HX10 := Lib.hid x10
              have HW := Lib.hid hw
              have HF := Lib.hid (HT.out (i + 1) (by omega) hst.out)
              have HC : Hid (Cut s (i + 1)) := Lib.hid (.inr (tg_not (by rw [la_succ, HXB.out]; exact HW.out) (by rw [la_succ, HXB.out]; have := HX58.out; omega)))
              clear x58 x32 x10
              go_wp2_with (first
                | (go_at_call 32; refine (CW.out _ _).mono ?_; rintro e w1 ⟨rfl, rfl⟩)
                | (go_at_call 33; refine (CS.out _ _).mono ?_; rintro e w2 ⟨r, rfl, hr, hb2⟩; have hI2 := hI.below hb2; clear hb2)
                | (at_builtin; refine wpList_append_own _ rfl _ _ 25 rfl w.heap.size 9 i0 (.string ⟨#[]⟩) 1 16 Tryd.underlying25 hi0 hz0 hz1 hz2 rfl (by decide) _ _ _ rfl (hI2.1.alloc _) ⟨w2.heap.size, 0, none⟩ 1 1 [.string (s.extract i (i + 1))] rfl rfl (cell_one_new _ _ _) (by intro u hu; simp at hu; subst hu; rfl) (by unfold maxLen; omega) (by omega) (by have := hI2.2.size; simp; omega) ?_))
              all_goals first
                | (have HO : Hid (okT s = false) := Lib.hid (by
                     cases h : okT s with
                     | false => rfl
                     | true =>
                       have h1 := ((okT_iff s).1 h).2 i hlt
                       have h3 : r = false := by
                         first
                           | assumption
                           | exact bnot_t (by assumption)
                       have h2 : x ∉ symL := fun hm => by
                         have := hr.out.2 hm
                         rw [h3] at this
                         cases this
                       rw [HXB.out, HOK.out, HW.out] at h1
                       simp [HX58.out, HX32.out, HX10.out, h2] at h1)
                   have HR : Hid (resT s = []) := Lib.hid (by rw [resT, if_neg (by rw [HO.out]; simp)])
                   go_ret2
                   exact ⟨⟨_, by rw [HO.out]; rfl, by rw [HR.out]; exact World.ownsRow_nil _ _ _ _⟩, hI2.2⟩)
                | skip
              intro v' w3 hown' hgrow _
              have HQ : Hid (∀ j, j < i + 1 → okB (bt s j) = true) := Lib.hid (hq'.out (by
                have h3 : r = true := by
                  first
                    | assumption
                    | exact bnot_f (by assumption)
                have h2 : x ∈ symL := hr.out.1 h3
                rw [HOK.out]; simp [h2]))
              have hI3 := hI2.push HF.out hown' hgrow
              clear hown' hgrow
              go_wp2_with fail
              go_roundg (s.size - (i + 1))
              case rel => exact ⟨i + 1, by omega, rfl, hI3, by go_num, HC, HQ⟩
              case measure => omega
    · obtain rfl : i = s.size := by omega
      have HO : Hid (okT s = true) := Lib.hid ((okT_iff s).2 ⟨hs, hq.out⟩)
      have HR : Hid (resT s = finT s s.size) := Lib.hid (by rw [resT, if_pos HO.out])
      go_wp2_with fail
      go_ret2
      exact ⟨⟨_, by rw [HO.out]; rfl, by rw [HR.out]; exact hI.1⟩, hI.2⟩

end Go.Proofs.YtcjaknojeaoffaaDoor
