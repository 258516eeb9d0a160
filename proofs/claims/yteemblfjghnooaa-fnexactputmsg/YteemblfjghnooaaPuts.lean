/- Contracts of PutNum, the program's and the specification's: both make, in new memory, the bytes that were there and the number's groups behind them. -/
import Derived.Test.YteemblfjghnooaaBytes
import Derived.Test.YteemblfjghnooaaPlain
import Derived.Test.YteemblfjghnooaaLaws
import Derived.Laws.CopyOwn
namespace Go.Proofs.Yteemblfjghnooaa.Puts
open Go.RowKit Go.Proofs.Yteemblfjghnooaa.Mem Go.Proofs.Yteemblfjghnooaa.Plain Go.Proofs.Yteemblfjghnooaa.Laws Go.Proofs.Yteemblfjghnooaa.Bytes
set_option linter.unusedVariables false

/-- the bytes of a number as it is put -/
def num (n : Int) : List Int := enc (clampN n).toNat
theorem num_byt (n : Int) : Byt (num n) := enc_byte _
theorem num_len (n : Int) : 1 ≤ (num n).length ∧ (num n).length ≤ 5 := ⟨enc_len _, enc_len5 _ (by have := clampN_bd n; omega)⟩

theorem near_any (n : Int) (w : World) : Calls Try.prog 56 #[.int .i64 n] w fun e w' => e = .returned (.int .i64 (clampN n)) ∧ w = w' := by
  by_cases h0 : n < 0
  · have HC : Hid (clampN n = 0) := by show clampN n = 0; unfold clampN; rw [if_pos h0]
    go_enter Try.func56, Try.ntmps56
    go_wp2
    go_ret
    exact ⟨by rw [HC.out]; rfl, rfl⟩
  · by_cases h1 : 1000000000 < n
    · have HC : Hid (clampN n = 1000000000) := by show clampN n = _; unfold clampN; rw [if_neg h0, if_pos h1]
      go_enter Try.func56, Try.ntmps56
      go_wp2
      go_ret
      exact ⟨by rw [HC.out]; rfl, rfl⟩
    · have HC : Hid (clampN n = n) := by show clampN n = _; unfold clampN; rw [if_neg h0, if_neg h1]
      go_enter Try.func56, Try.ntmps56
      go_wp2
      go_ret
      exact ⟨by rw [HC.out]; rfl, rfl⟩

set_option maxHeartbeats 400000 in
/-- ownBytes: a copy in new memory. -/
theorem own_any (w : World) (v : Value) (xs : List Int) (h : Sl w v (bs xs)) (hx : xs.length ≤ 140737488355328) :
    Calls Try.prog 57 #[v] w fun e w' => ∃ v', e = .returned v' ∧ Own w' w.heap.size w'.heap.size 5 v' (bs xs) ∧ Below w.heap.size w w' := by
  obtain ⟨i0, hi, hz0, hz1, hz2⟩ := info_parts info5
  have hlater : ∀ w', Below w.heap.size w w' → Sl w' v (bs xs) := fun w' hb => h.later hb
  obtain ⟨ao, cap, rfl, hc, _, hr⟩ := h
  rw [bs_len] at hr hc hlater
  rw [bs_len]
  go_enter Try.func57, Try.ntmps57
  go_wp2_with (first | (at_make; refine wpList_make_full _ rfl _ _ 22 rfl w.heap.size 5 i0 (.int .u8 0) 1 Try.underlying22 hi hz0 hz1 _ _ _ _ xs.length rfl rfl rfl rfl (by rw [hz2]; omega) (by unfold maxLen; omega) (Nat.le_refl _) ?_))
  intro w1 hown hgrow
  have hbel : Below w.heap.size w w1 := (Below.refl _ _).grown hgrow (Nat.le_refl _) (by simp)
  obtain ⟨L, hown'⟩ : ∃ L, w1.ownsRow w.heap.size 5 1 (.slice (some ⟨w.heap.size, 0, none⟩) xs.length xs.length) xs.length L := ⟨_, hown⟩
  have hblk : w1.heap[w.heap.size]? = some (.cells L.toArray 5 (0, 0)) := full_block hown'
  have hLn : L.length = xs.length := by have := hown'.1; omega
  have HLn : Hid (L.length = xs.length) := hLn
  obtain ⟨C, hC⟩ : ∃ C, C = bs xs := ⟨_, rfl⟩
  have HC : Hid (C = bs xs ∧ C.length = xs.length) := ⟨hC, by rw [hC, bs_len]⟩
  have hsz : (Try.prog.info? 5).map (·.size) = some 1 := by rw [hi]; simp [hz1]
  obtain ⟨ao', cap', he, _, _, hr'⟩ := hlater w1 hbel
  rw [bs_len] at he hr'
  simp only [Value.slice.injEq] at he
  obtain ⟨rfl, _, rfl⟩ := he
  have HS : Hid (0 < C.length → ∃ ad, ao = some ad ∧ ∀ j u, C[j]? = some u → w1.cell? (ad.add j) = some u) := by
    intro hp
    rw [HC.out.2] at hp
    obtain ⟨b, off, rfl, hcell⟩ := hr' hp
    refine ⟨_, rfl, fun j u hj => ?_⟩
    rw [Addr.add_lit, hcell j (by have := (List.getElem?_eq_some_iff.1 hj).1; rw [HC.out.2] at this; exact this), ← HC.out.1]
    exact hj
  have HO : Hid (∀ u ∈ C, u.oneCell' = true) := by show ∀ u ∈ C, u.oneCell' = true; rw [hC]; exact bs_one _
  clear hown hown' hgrow hLn hC hr hr'
  go_wp2_with (refine wpList_copy_splice rfl (.tmp 7) (.tmp 8) 22 22 rfl 5 Try.underlying22 hsz _ _ _ _ _ _ rfl rfl w.heap.size 0 L 5 hblk C (HC.out.2.trans (Nat.min_self _).symm) (fun hp => ⟨rfl, HS.out hp⟩) (by rw [HC.out.2, HLn.out]; omega) HO.out w.heap.size w hbel (Nat.le_refl _) ?_)
  intro w2 hg2 hb2
  go_wp2
  go_ret
  have hfin := hg2.out
  rw [splice_all (by rw [HLn.out, HC.out.2])] at hfin
  refine ⟨_, rfl, ?_, hb2⟩
  rw [← HC.out.1]
  exact Own.of (full_own hfin (Nat.le_refl _) HC.out.2 (by unfold maxLen; omega))

theorem byte_small {m : Nat} (h : m < 128) (ys : List Int) : ys ++ [(m : Int)] = ys ++ enc m := by rw [enc_small h]

theorem one_byte (x : Int) : ∀ u ∈ [Value.int .u8 x], u.oneCell' = true := by
  intro u hu
  rw [List.mem_singleton] at hu
  rw [hu]
  rfl

set_option maxRecDepth 1000000 in
set_option maxHeartbeats 1000000 in
/-- addNums of one number, onto a row that the caller owns. -/
theorem nums_one (w : World) (lo : Nat) (v : Value) (xs : List Int) (g : Nat) (n : Int) (h : Own w lo w.heap.size 5 v (bs xs)) (hlo : lo ≤ w.heap.size) (hx : xs.length ≤ 70368744177664)
    (hcell : w.cell? ⟨g, 0, none⟩ = some (.int .i64 n)) :
    Calls Try.prog 28 #[v, .slice (some ⟨g, 0, none⟩) 1 1] w fun e w' => ∃ v', e = .returned v' ∧ Own w' lo w'.heap.size 5 v' (bs (xs ++ num n)) ∧ Below lo w w' := by
  obtain ⟨i0, hi, hz0, hz1, hz2⟩ := info_parts info5
  go_enter Try.func28, Try.ntmps28
  go_wp2
  go_loopw [0, 9] (fun b i wr => (i = .int .i64 0 ∧ w = wr ∧ v = b) ∨ (i = .int .i64 1 ∧ Own wr lo wr.heap.size 5 b (bs (xs ++ num n)) ∧ Below lo w wr)) (fun _ i _ => 1 - (intOf i).toNat)
  case atStart => exact .inl ⟨rfl, rfl, rfl⟩
  case round =>
    rcases hrel with ⟨rfl, rfl, rfl⟩ | ⟨rfl, ho, hb⟩
    · have hcb := clampN_bd n
      go_wp2_with (go_at_call 56; refine (near_any _ _).mono ?_; rintro e w' ⟨rfl, rfl⟩)
      obtain ⟨m0, hm0⟩ : ∃ m0 : Nat, clampN n = (m0 : Int) := ⟨(clampN n).toNat, by omega⟩
      have HM : Hid (num n = enc m0) := by show num n = enc m0; unfold num; rw [hm0]; rfl
      have hm0b : m0 ≤ 1000000000 := by omega
      have hnl := num_len n
      rw [hm0]
      clear hcb hcell hm0
      go_loopw [0, 6] (fun b nn wr => ∃ (m : Nat) (ys : List Int), m ≤ 1000000000 ∧ nn = .int .i64 m ∧ ys ++ enc m = xs ++ num n ∧ Own wr lo wr.heap.size 5 b (bs ys) ∧ Below lo w wr) (fun _ nn _ => (intOf nn).toNat)
      case atStart => exact ⟨m0, xs, hm0b, rfl, by rw [HM.out], h, Below.refl _ _⟩
      case round =>
        obtain ⟨m, ys, hm, rfl, hE0, ho, hb⟩ := hrel
        have HE : Hid (ys ++ enc m = xs ++ num n) := hE0
        have hyl : ys.length ≤ xs.length + 5 := by have := congrArg List.length hE0; simp at this; omega
        have hsz := hb.size
        clear hE0 HM
        by_cases hlt : 128 ≤ m
        · have HS : Hid ((ys ++ [((m % 128 + 128 : Nat) : Int)]) ++ enc (m / 128) = xs ++ num n) := by
            show _ = _; rw [← HE.out, enc_step (show ¬ m < 128 by omega), List.append_assoc]; rfl
          have c2 : (bs ys).length + 1 ≤ maxLen := by rw [bs_len]; unfold maxLen; omega
          have c3 : ((bs ys).length + 1) * 1 ≤ 140737488355328 := by rw [bs_len]; omega
          have c4 : ∀ o, lo ≤ (wr.alloc o).heap.size := fun o => by simp; omega
          go_wp2_with (at_builtin; go_must (refine wpl_app _ rfl (.tmp 17) (.tmp 22) 22 rfl 5 i0 (.int .u8 0) 1 Try.underlying22 hi hz0 hz1 hz2 rfl lo _ (bs ys) rfl (ho.alloc _) _ rfl [.int .u8 ((m : Int) % 128 + 128)] (Sl.one _ _ _) (one_byte _) c2 c3 (c4 _) ?_); intro v1 w1 ho1 hb1 hg1)
          have hb2 : Below lo w w1 := (hb.alloc (by omega) _).trans hb1
          have ho2 : Own w1 lo w1.heap.size 5 v1 (bs (ys ++ [((m % 128 + 128 : Nat) : Int)])) := by rw [bs_app]; exact ho1
          go_roundw
          case rel => exact ⟨m / 128, ys ++ [((m % 128 + 128 : Nat) : Int)], by omega, by go_num, HS.out, ho2, hb2⟩
          case measure => simp [intOf]; omega
        · have c2 : (bs ys).length + 1 ≤ maxLen := by rw [bs_len]; unfold maxLen; omega
          have c3 : ((bs ys).length + 1) * 1 ≤ 140737488355328 := by rw [bs_len]; omega
          have c4 : ∀ o, lo ≤ (wr.alloc o).heap.size := fun o => by simp; omega
          have HS : Hid (ys ++ [(m : Int)] = xs ++ num n) := by show _ = _; rw [← HE.out, enc_small (show m < 128 by omega)]
          go_wp2_with (at_builtin; go_must (refine wpl_app _ rfl (.tmp 26) (.tmp 29) 22 rfl 5 i0 (.int .u8 0) 1 Try.underlying22 hi hz0 hz1 hz2 rfl lo _ (bs ys) rfl (ho.alloc _) _ rfl [.int .u8 (m : Int)] (Sl.one _ _ _) (one_byte _) c2 c3 (c4 _) ?_); intro v1 w1 ho1 hb1 hg1)
          have hb2 : Below lo w w1 := (hb.alloc (by omega) _).trans hb1
          have ho2 : Own w1 lo w1.heap.size 5 v1 (bs (xs ++ num n)) := by rw [← HS.out, bs_app]; exact ho1
          go_roundw
          case rel => exact .inr ⟨rfl, ho2, hb2⟩
          case measure => simp [intOf]
    · go_wp2
      go_ret
      exact ⟨_, rfl, ho, hb⟩

theorem new_cell (w : World) (u : Value) (t : TypeId) : (w.alloc (.cells #[u] t)).cell? ⟨w.heap.size, 0, none⟩ = some u := by
  rw [cell_of_row _ w.heap.size 0 #[u] t (0, 0) (heap_alloc_new w _)]
  rfl

theorem Own.empty (w : World) (lo : Nat) (h : lo ≤ w.heap.size) : Own (w.alloc (.cells #[] 5)) lo (w.alloc (.cells #[] 5)).heap.size 5 (.slice (some ⟨w.heap.size, 0, none⟩) 0 0) (bs []) :=
  Own.of (World.ownsRow_lit w #[] 0 h (Nat.zero_le _) rfl)

set_option maxRecDepth 1000000 in
set_option maxHeartbeats 1000000 in
theorem put_spec (w : World) (v : Value) (xs : List Int) (n : Int) (h : Sl w v (bs xs)) (hx : xs.length ≤ 70368744177664) :
    Calls Try.prog 49 #[v, .int .i64 n] w fun e w' => ∃ v', e = .returned v' ∧ Own w' w.heap.size w'.heap.size 5 v' (bs (xs ++ num n)) ∧ Below w.heap.size w w' := by
  obtain ⟨i0, hi, hz0, hz1, hz2⟩ := info_parts info5
  have c2 : (bs []).length + (bs xs).length ≤ maxLen := by rw [bs_len, bs_len]; unfold maxLen; simp; omega
  have c3 : ((bs []).length + (bs xs).length) * 1 ≤ 140737488355328 := by rw [bs_len, bs_len]; simp; omega
  have c4 : ∀ o, w.heap.size ≤ (w.alloc o).heap.size := fun o => by simp
  have hs2 : ∀ o, Sl (w.alloc o) v (bs xs) := fun o => h.later ((Below.refl _ _).alloc (Nat.le_refl _) o)
  have HB : Hid (0 ≤ clampN n ∧ clampN n ≤ 1000000000) := clampN_bd n
  have hway : (decide (1000000000 < n) = true ∧ clampN n = 1000000000) ∨ (decide (1000000000 < n) = false ∧ decide (n < 0) = true ∧ clampN n = 0) ∨ (decide (1000000000 < n) = false ∧ decide (n < 0) = false ∧ clampN n = n) := by
    simp only [decide_eq_true_eq, decide_eq_false_iff_not]
    unfold clampN; (split <;> (try split)) <;> omega
  rcases hway with ⟨hd1, hcl⟩ | ⟨hd1, hd2, hcl⟩ | ⟨hd1, hd2, hcl⟩
  all_goals
    have HC : Hid (clampN n = _) := hcl
    clear hcl
    go_enter Try.func49, Try.ntmps49
    go_wp2_with (at_builtin; go_must (refine wpl_app _ rfl (.tmp 6) (.tmp 7) 22 rfl 5 i0 (.int .u8 0) 1 Try.underlying22 hi hz0 hz1 hz2 rfl w.heap.size _ (bs []) rfl (Own.empty w _ (Nat.le_refl _)) _ rfl (bs xs) (hs2 _) (bs_one _) c2 c3 (c4 _) ?_))
    intro v1 w1 ho1 hb1 hg1
    have hb2 : Below w.heap.size w w1 := ((Below.refl _ _).alloc (Nat.le_refl _) _).trans hb1
    rw [← bs_app, List.nil_append] at ho1
    clear hg1 hb1 c2 c3 c4 hs2
    go_wp2
    go_loopw [1, 5] (fun nn b wr => ∃ (m : Nat) (ys : List Int), m ≤ 1000000000 ∧ nn = .int .i64 m ∧ ys ++ enc m = xs ++ num n ∧ Own wr w.heap.size wr.heap.size 5 b (bs ys) ∧ Below w.heap.size w wr) (fun nn _ _ => (intOf nn).toNat)
    case atStart =>
      have hcb := HB.out
      have hcl := HC.out
      exact ⟨(clampN n).toNat, xs, by omega, congrArg (Value.int .i64) (by omega), rfl, ho1, hb2⟩
    case round =>
      obtain ⟨m, ys, hm, rfl, hE0, ho, hb⟩ := hrel
      have HE : Hid (ys ++ enc m = xs ++ num n) := hE0
      have hyl : ys.length ≤ xs.length + 5 := by have := congrArg List.length hE0; have := (num_len n).2; simp at *; omega
      have hsz := hb.size
      have c2 : (bs ys).length + 1 ≤ maxLen := by rw [bs_len]; unfold maxLen; omega
      have c3 : ((bs ys).length + 1) * 1 ≤ 140737488355328 := by rw [bs_len]; omega
      have c4 : ∀ o, w.heap.size ≤ (wr.alloc o).heap.size := fun o => by simp; omega
      clear hE0
      by_cases hlt : 127 < m
      · have HS : Hid ((ys ++ [((m % 128 + 128 : Nat) : Int)]) ++ enc (m / 128) = xs ++ num n) := by
          show _ = _; rw [← HE.out, enc_step (show ¬ m < 128 by omega), List.append_assoc]; rfl
        have hmask := and127 (n := (m : Int)) (by omega) (by omega)
        have hor := or128 (n := (m : Int) % 128) (by omega) (by omega)
        go_wp2_with (at_builtin; go_must (refine wpl_app _ rfl (.tmp 15) (.tmp 20) 22 rfl 5 i0 (.int .u8 0) 1 Try.underlying22 hi hz0 hz1 hz2 rfl w.heap.size _ (bs ys) rfl (ho.alloc _) _ rfl [.int .u8 ((m : Int) % 128 + 128)] (Sl.one _ _ _) (one_byte _) c2 c3 (c4 _) ?_); intro v3 w3 ho3 hb3 hg3)
        have hb4 : Below w.heap.size w w3 := (hb.alloc (by omega) _).trans hb3
        have ho4 : Own w3 w.heap.size w3.heap.size 5 v3 (bs (ys ++ [((m % 128 + 128 : Nat) : Int)])) := by rw [bs_app]; exact ho3
        go_roundw
        case rel => exact ⟨m / 128, ys ++ [((m % 128 + 128 : Nat) : Int)], by omega, by go_num, HS.out, ho4, hb4⟩
        case measure => simp [intOf]; omega
      · have HS : Hid (ys ++ [(m : Int)] = xs ++ num n) := by show _ = _; rw [← HE.out, enc_small (show m < 128 by omega)]
        go_wp2_with (at_builtin; go_must (refine wpl_app _ rfl (.tmp 24) (.tmp 27) 22 rfl 5 i0 (.int .u8 0) 1 Try.underlying22 hi hz0 hz1 hz2 rfl w.heap.size _ (bs ys) rfl (ho.alloc _) _ rfl [.int .u8 (m : Int)] (Sl.one _ _ _) (one_byte _) c2 c3 (c4 _) ?_); intro v3 w3 ho3 hb3 hg3)
        have hb4 : Below w.heap.size w w3 := (hb.alloc (by omega) _).trans hb3
        have ho4 : Own w3 w.heap.size w3.heap.size 5 v3 (bs (xs ++ num n)) := by rw [← HS.out, bs_app]; exact ho3
        go_ret
        exact ⟨_, rfl, ho4, hb4⟩

/-- the bytes of texts, each behind its length -/
def tx (s : ByteArray) : List Int := num (s.size : Int) ++ sb s
def tot : List ByteArray → Nat
  | [] => 0
  | s :: r => s.size + tot r
def txs : List ByteArray → List Int
  | [] => []
  | s :: r => tx s ++ txs r
theorem tx_len (s : ByteArray) : (tx s).length ≤ s.size + 5 := by
  unfold tx; have := num_len (s.size : Int); rw [List.length_append, sb_len]; omega
theorem txs_len (l : List ByteArray) : (txs l).length ≤ 5 * l.length + tot l := by
  induction l with
  | nil => simp [txs, tot]
  | cons s r ih => have := tx_len s; simp only [txs, tot, List.length_append, List.length_cons]; omega
theorem tx_byt (s : ByteArray) : Byt (tx s) := (num_byt _).app (sb_byt _)

set_option maxRecDepth 1000000 in
set_option maxHeartbeats 1000000 in
theorem putt_spec (w : World) (v : Value) (xs : List Int) (s : ByteArray) (h : Sl w v (bs xs)) (hx : xs.length ≤ 35184372088832) (hs : s.size ≤ 35184372088832) :
    Calls Try.prog 51 #[v, .string s] w fun e w' => ∃ v', e = .returned v' ∧ Own w' w.heap.size w'.heap.size 5 v' (bs (xs ++ tx s)) ∧ Below w.heap.size w w' := by
  obtain ⟨i0, hi, hz0, hz1, hz2⟩ := info_parts info5
  have hnl := num_len (s.size : Int)
  go_enter Try.func51, Try.ntmps51
  go_wp2_with fail
  refine (put_spec w v xs _ h (by omega)).mono ?_
  rintro e w1 ⟨v1, rfl, ho1, hb1⟩
  have hsz := hb1.size
  have c1 : (xs ++ num (s.size : Int)).length + s.size ≤ 140737488355328 := by rw [List.length_append]; omega
  go_wp2_with (at_builtin; go_must (refine wpl_str _ rfl (.tmp 8) (.tmp 9) 22 9 rfl 5 i0 Try.underlying22 Try.underlying9 hi hz0 hz1 hz2 w.heap.size _ _ rfl ho1 s rfl c1 hsz ?_); intro v2 w2 ho2 hb2)
  go_ret
  rw [List.append_assoc] at ho2
  exact ⟨_, rfl, ho2, hb1.trans hb2⟩

set_option maxRecDepth 1000000 in
set_option maxHeartbeats 1000000 in
/-- addTexts, onto a row that the caller owns; the texts lie ahead of it, or there is one of them alone. -/
theorem texts_any (w : World) (lo : Nat) (v : Value) (xs : List Int) (vt : Value) (l : List ByteArray) (h : Own w lo w.heap.size 5 v (bs xs)) (hlo : lo ≤ w.heap.size) (ht : Sl w vt (ss l)) (hkeep : ∀ w', Below lo w w' → 1 < l.length → Sl w' vt (ss l))
    (hx : xs.length + (txs l).length ≤ 35184372088832) (hl : l.length ≤ 35184372088832) :
    Calls Try.prog 30 #[v, vt] w fun e w' => ∃ v', e = .returned v' ∧ Own w' lo w'.heap.size 5 v' (bs (xs ++ txs l)) ∧ Below lo w w' := by
  obtain ⟨i0, hi, hz0, hz1, hz2⟩ := info_parts info5
  obtain ⟨ao, cap, rfl, hc, hn, hr⟩ := ht
  rw [ss_len] at hr hc hkeep
  rw [ss_len]
  go_enter Try.func30, Try.ntmps30
  go_wp2
  go_loopw [0, 9] (fun b i wr => ∃ (k : Nat) (ys : List Int), k ≤ l.length ∧ i = .int .i64 k ∧ ys ++ txs (l.drop k) = xs ++ txs l ∧ Own wr lo wr.heap.size 5 b (bs ys) ∧ Below lo w wr ∧ (k = 0 → wr = w)) (fun _ i _ => l.length - (intOf i).toNat)
  case atStart => exact ⟨0, xs, Nat.zero_le _, rfl, rfl, h, Below.refl _ _, fun _ => rfl⟩
  case round =>
    obtain ⟨k, ys, hk, rfl, hE0, ho, hb, hfirst⟩ := hrel
    have HE : Hid (ys ++ txs (l.drop k) = xs ++ txs l) := hE0
    have hsz := hb.size
    by_cases hlt : k < l.length
    · obtain ⟨s, hs0⟩ : ∃ s, l[k]? = some s := ⟨l[k], by simp⟩
      have HD : Hid (l.drop k = s :: l.drop (k + 1)) := by
        obtain ⟨hk', rfl⟩ := List.getElem?_eq_some_iff.1 hs0
        exact List.drop_eq_getElem_cons hk'
      have hlen : ys.length + (tx s).length ≤ 35184372088832 := by
        have h1 := congrArg List.length HE.out
        rw [HD.out] at h1
        simp only [txs, List.length_append] at h1
        omega
      have htl : s.size ≤ (tx s).length := by unfold tx; rw [List.length_append, sb_len]; omega
      have hnl := num_len (s.size : Int)
      have hcl : ∃ b off, ao = some ⟨b, off, none⟩ ∧ wr.cell? ⟨b, off + k, none⟩ = some (.string s) := by
        have key : ∀ w0 : World, (0 < l.length → ∃ b off, ao = some ⟨b, off, none⟩ ∧ ∀ j, j < l.length → w0.cell? ⟨b, off + j, none⟩ = (ss l)[j]?) → ∃ b off, ao = some ⟨b, off, none⟩ ∧ w0.cell? ⟨b, off + k, none⟩ = some (.string s) := by
          intro w0 hq
          obtain ⟨b, off, he, hc⟩ := hq (by omega)
          exact ⟨b, off, he, by rw [hc k hlt]; simp [ss, hs0]⟩
        by_cases h0 : k = 0
        · rw [hfirst h0]; exact key w hr
        · obtain ⟨ao', cap', he, _, _, hr'⟩ := hkeep wr hb (by omega)
          rw [ss_len] at he hr'
          simp only [Value.slice.injEq] at he
          obtain ⟨rfl, _, rfl⟩ := he
          exact key wr hr'
      obtain ⟨b, off, rfl, hcell⟩ := hcl
      have HN : Hid ((ys ++ tx s) ++ txs (l.drop (k + 1)) = xs ++ txs l) := by
        show _ = _; rw [← HE.out, HD.out, List.append_assoc]; rfl
      clear hs0 HD hE0 HE hr hkeep hfirst h
      have hss : (s.size : Int) ≤ 35184372088832 := by omega
      go_wp2_with fail
      refine (nums_one _ lo _ ys wr.heap.size (s.size : Int) (ho.alloc _) (by simp; omega) (by omega) (new_cell _ _ _)).mono ?_
      rintro e w1 ⟨v1, rfl, ho1, hb1⟩
      have hb1' : Below lo w w1 := (hb.alloc (by omega) _).trans hb1
      have hsz1 : lo ≤ w1.heap.size := by have := hb1'.size; omega
      have c1 : (ys ++ num (s.size : Int)).length + s.size ≤ 140737488355328 := by rw [List.length_append]; omega
      go_wp2_with (at_builtin; go_must (refine wpl_str _ rfl (.tmp 17) (.tmp 18) 22 9 rfl 5 i0 Try.underlying22 Try.underlying9 hi hz0 hz1 hz2 lo _ _ rfl ho1 s rfl c1 hsz1 ?_); intro v2 w2 ho2 hb2)
      rw [List.append_assoc] at ho2
      have hb3 : Below lo w w2 := hb1'.trans hb2
      go_roundw
      case rel => exact ⟨k + 1, ys ++ tx s, by omega, by go_num, HN.out, ho2, hb3, fun h => by omega⟩
      case measure => simp [intOf]; omega
    · go_wp2
      go_ret
      have h1 := HE.out
      rw [List.drop_eq_nil_of_le (by omega)] at h1
      simp only [txs, List.append_nil] at h1
      rw [h1] at ho
      exact ⟨_, rfl, ho, hb⟩

theorem Sl.oneStr (w : World) (s : ByteArray) (t : TypeId) : Sl (w.alloc (.cells #[.string s] t)) (.slice (some ⟨w.heap.size, 0, none⟩) 1 1) (ss [s]) := Sl.one w (.string s) t

theorem drop_str {l : List ByteArray} {k : Nat} {s : ByteArray} (h : l[k]? = some s) : l.drop k = s :: l.drop (k + 1) := by
  obtain ⟨hk, rfl⟩ := List.getElem?_eq_some_iff.1 h
  exact List.drop_eq_getElem_cons hk

set_option maxRecDepth 1000000 in
set_option maxHeartbeats 1000000 in
theorem putts_spec (w : World) (v vt : Value) (xs : List Int) (l : List ByteArray) (h : Sl w v (bs xs)) (ht : Sl w vt (ss l)) (hx : xs.length + (txs l).length + 5 ≤ 10000000000000) (hl : l.length ≤ 10000000000000) :
    Calls Try.prog 50 #[v, vt] w fun e w' => ∃ v', e = .returned v' ∧ Own w' w.heap.size w'.heap.size 5 v' (bs (xs ++ num (l.length : Int) ++ txs l)) ∧ Below w.heap.size w w' := by
  have hlater : ∀ w', Below w.heap.size w w' → Sl w' vt (ss l) := fun w' hb => ht.later hb
  obtain ⟨ao, cap, rfl, hc, hn, hr⟩ := ht
  rw [ss_len] at hr hc hlater
  rw [ss_len]
  have hnl := num_len (l.length : Int)
  obtain ⟨R, hR⟩ : ∃ R, R = xs ++ num (l.length : Int) ++ txs l := ⟨_, rfl⟩
  have HR : Hid (xs ++ num (l.length : Int) ++ txs l = R) := hR.symm
  have hRl : R.length ≤ 10000000000000 := by rw [hR]; simp only [List.length_append]; omega
  clear hR hr hn
  go_enter Try.func50, Try.ntmps50
  go_wp2_with fail
  refine (put_spec w v xs _ h (by omega)).mono ?_
  rintro e w1 ⟨v1, rfl, ho1, hb1⟩
  go_wp2_with fail
  go_loopw [5, 6] (fun b i wr => ∃ (k : Nat) (ys : List Int), k ≤ l.length ∧ i = .int .i64 k ∧ ys ++ txs (l.drop k) = R ∧ Own wr w.heap.size wr.heap.size 5 b (bs ys) ∧ Below w.heap.size w wr) (fun _ i _ => l.length - (intOf i).toNat)
  case atStart => exact ⟨0, _, Nat.zero_le _, rfl, HR.out, ho1, hb1⟩
  case round =>
    obtain ⟨k, ys, hk, rfl, hE0, ho, hb⟩ := hrel
    have HE : Hid (ys ++ txs (l.drop k) = R) := hE0
    have hsz := hb.size
    clear hE0 ho1 hb1
    by_cases hlt : k < l.length
    · obtain ⟨ao', cap', he, _, _, hr'⟩ := hlater wr hb
      rw [ss_len] at he hr'
      simp only [Value.slice.injEq] at he
      obtain ⟨rfl, _, rfl⟩ := he
      obtain ⟨b, off, s, rfl, hx0, hcell⟩ := Sl.strAt hr' rfl hlt
      have HN : Hid ((ys ++ tx s) ++ txs (l.drop (k + 1)) = R) := by
        show _ = _; rw [← HE.out, drop_str hx0, List.append_assoc]; rfl
      have hlen : ys.length + (tx s).length ≤ 10000000000000 := by
        have h1 := congrArg List.length HN.out
        simp only [List.length_append] at h1
        omega
      have htl : s.size ≤ (tx s).length := by unfold tx; rw [List.length_append, sb_len]; omega
      clear hx0 hr' hlater HR HE
      go_wp2_with fail
      refine (putt_spec wr _ ys s ho.sl (by omega) (by omega)).mono ?_
      rintro e w2 ⟨v2, rfl, ho2, hb2⟩
      have ho3 := ho2.mono hsz (Nat.le_refl _)
      have hb3 : Below w.heap.size w w2 := hb.trans (hb2.mono hsz)
      go_wp2
      go_roundw
      case rel => exact ⟨k + 1, ys ++ tx s, by omega, by go_num, HN.out, ho3, hb3⟩
      case measure => simp [intOf]; omega
    · go_wp2
      go_ret
      have h1 := HE.out
      rw [List.drop_eq_nil_of_le (by omega)] at h1
      simp only [txs, List.append_nil] at h1
      rw [HR.out, ← h1]
      exact ⟨_, rfl, ho, hb⟩

set_option maxRecDepth 1000000 in
set_option maxHeartbeats 1000000 in
theorem putts_impl (w : World) (v vt : Value) (xs : List Int) (l : List ByteArray) (h : Sl w v (bs xs)) (ht : Sl w vt (ss l)) (hx : xs.length + (txs l).length + 5 ≤ 10000000000000) (hl : l.length ≤ 10000000000000) :
    Calls Try.prog 29 #[v, vt] w fun e w' => ∃ v', e = .returned v' ∧ Own w' w.heap.size w'.heap.size 5 v' (bs (xs ++ num (l.length : Int) ++ txs l)) ∧ Below w.heap.size w w' := by
  have hlater : ∀ w', Below w.heap.size w w' → Sl w' vt (ss l) := fun w' hb => ht.later hb
  obtain ⟨ao, cap, rfl, hc, hn, hr⟩ := ht
  rw [ss_len] at hr hc hlater
  rw [ss_len]
  have hnl := num_len (l.length : Int)
  go_enter Try.func29, Try.ntmps29
  go_wp2_with fail
  refine (own_any w v xs h (by omega)).mono ?_
  rintro e w1 ⟨v1, rfl, ho1, hb1⟩
  have hsz := hb1.size
  go_wp2_with fail
  refine (nums_one _ w.heap.size v1 xs w1.heap.size (l.length : Int) (ho1.alloc _) (by simp; omega) (by omega) (new_cell _ _ _)).mono ?_
  rintro e w2 ⟨v2, rfl, ho2, hb2⟩
  have hb3 : Below w.heap.size w w2 := (hb1.alloc (by omega) _).trans hb2
  have hsz2 := hb3.size
  go_wp2_with fail
  refine (texts_any w2 w.heap.size v2 _ _ l ho2 hsz2 (hlater _ hb3) (fun w' hb _ => hlater w' (hb3.trans hb)) (by rw [List.length_append]; omega) (by omega)).mono ?_
  rintro e w4 ⟨v4, rfl, ho4, hb4⟩
  go_wp2
  go_ret
  exact ⟨_, rfl, ho4, hb3.trans hb4⟩

end Go.Proofs.Yteemblfjghnooaa.Puts
