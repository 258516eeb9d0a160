/- Chapter 9: drawn texts; the law FnTiles, over contracts of the landed functions. -/
import Derived.Test.YthcmkpdmdkpebaaDoorTi3
import Derived.Test.YthcmkpdmdkpebaaDoorTrL
namespace Go.Proofs.YthcmkpdmdkpebaaDoor.Ti
open Go.RowKit Go.Proofs.YthcmkpdmdkpebaaDoor.Mem Go.Proofs.YthcmkpdmdkpebaaDoor.Laws Go.Proofs.YthcmkpdmdkpebaaDoor.Bytes Go.Proofs.YthcmkpdmdkpebaaDoor.Sha Go.Proofs.YthcmkpdmdkpebaaDoor.Tr Go.Proofs.YthcmkpdmdkpebaaDoor.Draw
set_option linter.unusedVariables false
set_option linter.unusedSimpArgs false

/-- the texts that l9List draws of -/
def three9 : List ByteArray := [⟨#[]⟩, ⟨#[97]⟩, ⟨#[98]⟩]
theorem three9_size : ∀ s ∈ three9, s.size ≤ 3 := by decide

set_option maxRecDepth 1000000 in
set_option maxHeartbeats 1000000 in
theorem list9_any (W0 w : World) (g : Nat) (vb : Value) (xs : List Int) (hs : Sl W0 vb (bs xs)) (hby : Byt xs) (hx : xs.length ≤ 140737488355328) (hB : Below W0.heap.size W0 w) (hg : W0.heap.size ≤ g) (hc : Cur w g vb xs.length) :
    Calls Tryd.prog 20 #[.pointer (some ⟨g, 0, none⟩)] w fun e w' => ∃ (v' : Value) (l : List ByteArray), e = .returned v' ∧ l.length ≤ 33 ∧ (∀ s ∈ l, s.size ≤ 3) ∧ Own w' w.heap.size w'.heap.size 9 v' (ss l) ∧ Drawn W0 w g vb xs w' := by
  obtain ⟨i0, hi, hz0, hz1, hz2⟩ := info_parts info9t
  have hgw := hc.lt
  have hd0 : Drawn W0 w g vb xs (w.alloc (.cells #[] 9)) := (Drawn.refl hB hc).on hg hgw ((Below.refl _ _).alloc (Nat.le_refl _) _)
  have ho0 := emptyT w w.heap.size (Nat.le_refl _)
  have hd00 : ∀ o, Drawn W0 w g vb xs ((w.alloc (.cells #[] 9)).alloc o) := fun o => hd0.on hg hgw ((Below.refl _ _).alloc (by simp) _)
  have ho00 : ∀ o, Own ((w.alloc (.cells #[] 9)).alloc o) w.heap.size ((w.alloc (.cells #[] 9)).alloc o).heap.size 9 _ (ss []) := fun o => ho0.alloc o
  go_enter Tryd.func20, Tryd.ntmps20
  go_wp2_with fail
  refine (int_any W0 _ g vb xs (w.heap.size + 1) [0, 3, 4, 5, 16, 17, 20, 21, 33] (by rw [← World.size_alloc w (.cells #[] 9)]; exact lit_block _ _ _) (by omega) (by simp) (by simp) hs hby hx (hd00 _).below hg (hd00 _).cur).mono ?_
  rintro e w1 ⟨x, rfl, xm, hd1⟩
  have hx8 : 0 ≤ x ∧ x ≤ 33 := by simp only [List.mem_cons, List.not_mem_nil, or_false] at xm; omega
  obtain ⟨n, rfl⟩ := Int.eq_ofNat_of_zero_le hx8.1
  have ho1 : Own w1 w.heap.size w1.heap.size 9 _ (ss []) := (Own.drawn (ho00 _) hd1 (.inl hgw) (Nat.le_refl _)).mono (Nat.le_refl _) hd1.apart.size
  have hd2 := (hd00 _).and hd1
  have hn8 : n ≤ 33 := by omega
  clear hd0 ho0 hd1 hd00 ho00 xm hx8
  go_wp2
  go_loopw [3, 4] (fun out i wr => ∃ (k : Nat) (l : List ByteArray), k ≤ 33 ∧ i = .int .i64 k ∧ l.length + k ≤ 33 ∧ (∀ s ∈ l, s.size ≤ 3) ∧ Own wr w.heap.size wr.heap.size 9 out (ss l) ∧ Drawn W0 w g vb xs wr) (fun _ i _ => (intOf i).toNat)
  case atStart => exact ⟨n, [], by omega, rfl, by simp; omega, fun s hs => (by cases hs), ho1, hd2⟩
  case round =>
    obtain ⟨k, l, hk, rfl, hll, hls, ho, hd⟩ := hrel
    have HY : Hid (∀ s ∈ l, s.size ≤ 3) := hls
    clear hls ho1 hd2
    by_cases hlt : 0 < k
    · have hd3 : ∀ o, Drawn W0 w g vb xs (wr.alloc o) := fun o => hd.on hg hgw ((Below.refl _ _).alloc hd.apart.size _)
      have hgr : g < wr.heap.size := hd.cur.lt
      go_wp2_with fail
      refine (str_any W0 _ g vb xs wr.heap.size three9 (lit_block _ _ _) (by omega) (by decide) (by decide) hs hby hx (hd3 _).below hg (hd3 _).cur).mono ?_
      rintro e w2 ⟨s, rfl, hsm, hd4⟩
      have hsz := three9_size s hsm
      have ho2 : Own w2 w.heap.size w2.heap.size 9 _ (ss l) := (Own.drawn (ho.alloc _) hd4 (.inl hgw) (Nat.le_refl _)).mono (Nat.le_refl _) hd4.apart.size
      have hd5 := (hd3 _).and hd4
      have hsz2 : w.heap.size ≤ w2.heap.size := hd5.apart.size
      have c2 : (ss l).length + 1 ≤ maxLen := by rw [ss_len]; unfold maxLen; omega
      have c3 : ((ss l).length + 1) * 16 ≤ 140737488355328 := by rw [ss_len]; omega
      have c4 : ∀ o, w.heap.size ≤ (w2.alloc o).heap.size := fun o => by simp; omega
      clear hd3 hd4 ho hd
      go_wp2_with (at_builtin; go_must (refine wpl_app _ rfl (.tmp 13) (.tmp 17) 24 rfl 9 i0 (.string ⟨#[]⟩) 16 Tryd.underlying24 hi hz0 hz1 hz2 rfl w.heap.size _ (ss l) rfl (ho2.alloc _) _ rfl [.string s] (Sl.one _ _ _) (oneT _) c2 c3 (c4 _) ?_); intro v3 w3 ho3 hb3 hg3)
      have hd6 := hd5.on hg hgw (((Below.refl _ _).alloc hsz2 _).trans hb3)
      have ho4 : Own w3 w.heap.size w3.heap.size 9 v3 (ss (l ++ [s])) := by rw [ss_app]; exact ho3
      have HN : Hid (∀ z ∈ l ++ [s], z.size ≤ 3) := by
        intro z hz
        rcases List.mem_append.1 hz with hz | hz
        · exact HY.out z hz
        · rw [List.mem_singleton] at hz; rw [hz]; exact hsz
      go_roundw
      case rel => exact ⟨k - 1, l ++ [s], by omega, by go_num, by simp; omega, HN.out, ho4, hd6⟩
      case measure => simp [intOf]; omega
    · go_wp2
      go_ret
      exact ⟨_, l, rfl, by omega, HY.out, ho, hd⟩

set_option maxRecDepth 1000000 in
set_option maxHeartbeats 1000000 in
theorem many_any (w : World) (vb : Value) (xs : List Int) (hs : Sl w vb (bs xs)) (hby : Byt xs) (hx : xs.length ≤ 140737488355328) :
    Calls Tryd.prog 7 #[vb] w fun e w' => ∃ (v' : Value) (l : List ByteArray), e = .returned v' ∧ l.length ≤ 33 ∧ (∀ s ∈ l, s.size ≤ 3) ∧ Sl w' v' (ss l) ∧ Below w.heap.size w w' := by
  go_enter Tryd.func7, Tryd.ntmps7
  go_wp2_with fail
  refine (new_any w vb xs hs hby hx).mono ?_
  rintro e w1 ⟨rfl, hd1⟩
  go_wp2_with fail
  refine (list9_any w w1 w.heap.size vb xs hs hby hx hd1.below (Nat.le_refl _) hd1.cur).mono ?_
  rintro e w2 ⟨v2, l, rfl, hll, hls, ho2, hd2⟩
  go_wp2
  go_ret
  exact ⟨_, l, rfl, hll, hls, ho2.sl, hd2.below⟩

theorem tileOf_small (l : List ByteArray) (level i : Int) : ∀ s ∈ tileOf l level i, s.size ≤ 1000 := by
  unfold tileOf
  split
  · intro s hs
    have := tl_size l _ _ _ s hs
    omega
  · intro s hs
    cases hs
/-- what the law asks of one tile -/
theorem tile_facts {l : List ByteArray} {j q : Nat} (hl : l.length ≤ 200) (hj : j ≤ 2) (hq : q < tileCount (l.length : Int) (j : Int)) :
    (tileOf l (j : Int) (q : Int)).length = min 4 (l.length / 4 ^ j - 4 * q) ∧ 4 * q < l.length / 4 ^ j ∧ ((tileOf l (j : Int) (q : Int)).length = 4 → ∃ x, (tileOf l ((j : Int) + 1) ((q : Int) / 4))[q % 4]? = some x ∧ tileRoot (tileOf l (j : Int) (q : Int)) = x) := by
  have hP := span_le j (by omega)
  have hpow : Pow (4 ^ j) := ⟨2 * j, by rw [Nat.pow_mul]⟩
  have e4 : 4 ^ (j + 1) = 4 * 4 ^ j := by rw [Nat.pow_succ]; omega
  have hc := tileCount_yes hl (show j ≤ 3 by omega)
  have hc' := tileCount_yes hl (show j + 1 ≤ 3 by omega)
  have hd : l.length / 4 ^ (j + 1) = l.length / 4 ^ j / 4 := by rw [Nat.pow_succ, Nat.div_div_eq_div_mul]
  rw [hd] at hc'
  have ho : tileOf l (j : Int) (q : Int) = tl l (4 ^ j) 4 (4 * q) := tileOf_yes (by omega)
  have hlen := tl_len l hP.1 4 (4 * q)
  rw [ho, hlen]
  refine ⟨rfl, by omega, fun h4 => ?_⟩
  have hqn : 4 * q + 4 ≤ l.length / 4 ^ j := by omega
  have e1 : ((j : Int) + 1) = ((j + 1 : Nat) : Int) := by omega
  have e2 : (q : Int) / 4 = ((q / 4 : Nat) : Int) := by omega
  have ho' : tileOf l ((j : Int) + 1) ((q : Int) / 4) = tl l (4 ^ (j + 1)) 4 (4 * (q / 4)) := by
    rw [e1, e2]
    exact tileOf_yes (by omega)
  have hg := tl_get l (s := 4 ^ (j + 1)) (by omega) 4 (4 * (q / 4)) (q % 4) (by omega) (by rw [hd]; omega)
  refine ⟨nd l (4 ^ (j + 1)) q, ?_, ?_⟩
  · rw [ho', hg]
    congr 2
    omega
  · unfold tileRoot
    rw [if_pos (by rw [hlen]; omega), tile_up l hpow (by rw [hlen]; exact h4), e4]

set_option maxRecDepth 1000000 in
set_option maxHeartbeats 8000000 in
theorem tiles9 (w : World) (v0 : Value) (xs0 : List Int) (h0 : Sl w v0 (bs xs0)) (y0 : Byt xs0) (m0 : xs0.length ≤ maxLen)
    (iCnt : ∀ W, Below w.heap.size w W → ∀ (n level : Int), Calls Tryd.prog 8 #[.int .i64 n, .int .i64 level] W fun e w' => e = .returned (.int .i64 (tileCount n level : Int)) ∧ Below W.heap.size W w')
    (iOf : ∀ W, Below w.heap.size w W → ∀ (v' : Value) (l : List ByteArray) (level i : Int), Sl W v' (ss l) → l.length ≤ 1000 → (∀ s ∈ l, s.size ≤ 1000) → Calls Tryd.prog 9 #[v', .int .i64 level, .int .i64 i] W fun e w' => ∃ v'', e = .returned v'' ∧ Own w' W.heap.size w'.heap.size 9 v'' (ss (tileOf l level i)) ∧ Below W.heap.size W w')
    (iTr : ∀ W, Below w.heap.size w W → ∀ (v' : Value) (t : List ByteArray), Sl W v' (ss t) → t.length ≤ 1000 → (∀ s ∈ t, s.size ≤ 1000) → Calls Tryd.prog 10 #[v'] W fun e w' => e = .returned (.string (tileRoot t)) ∧ Below W.heap.size W w')
    (iRoot : ∀ W, Below w.heap.size w W → ∀ (v' : Value) (l : List ByteArray), Sl W v' (ss l) → l.length ≤ 1000 → (∀ s ∈ l, s.size ≤ 1000) → Calls Tryd.prog 11 #[v'] W fun e w' => e = .returned (.string (rootOf l)) ∧ Below W.heap.size W w') :
    Calls Tryd.prog 3 #[v0] w fun e w' => e = .returned (.bool true) ∧ Below w.heap.size w w' := by
  have hs := h0
  have hby := y0
  obtain ⟨ao0, cap0, rfl, -, -, -⟩ := h0
  rw [Mem.bs_len] at hs ⊢
  clear m0 y0
  by_cases hbig : 1048576 < xs0.length
  · have qb := big_yes w ao0 xs0.length cap0 hbig
    clear iCnt iOf iTr iRoot
    go_enter Tryd.func3, Tryd.ntmps3
    go_wp2_with fail
    refine qb.mono ?_
    rintro e w1 ⟨rfl, rfl⟩
    go_wp2
    go_ret
    exact ⟨rfl, Below.refl _ _⟩
  have qb := big_no w ao0 xs0.length cap0 hbig
  have qd := many_any w _ xs0 hs hby (by omega)
  go_enter Tryd.func3, Tryd.ntmps3
  go_wp2_with fail
  refine qb.mono ?_
  rintro e w1 ⟨rfl, rfl⟩
  go_wp2_with fail
  refine qd.mono ?_
  rintro e W1 ⟨v1, l, rfl, hl, hz, s1, B1⟩
  obtain ⟨lo_, lc, rfl, hlc⟩ : ∃ (ao : Option Addr) (cap : Nat), v1 = .slice ao l.length cap ∧ l.length ≤ cap := by
    obtain ⟨ao, cap, rfl, hc, _⟩ := s1
    rw [ss_len] at hc ⊢
    exact ⟨ao, cap, rfl, hc⟩
  have qc : ∀ W, Below W1.heap.size W1 W → ∀ (n level : Int), _ := fun W hW => iCnt W (B1.trans (hW.mono B1.size))
  have qo : ∀ W, Below W1.heap.size W1 W → ∀ (level i : Int), _ := fun W hW level i => iOf W (B1.trans (hW.mono B1.size)) _ l level i (s1.later hW) (by omega) (fun s h => Nat.le_trans (hz s h) (by omega))
  have qR : ∀ W, Below W1.heap.size W1 W → _ := fun W hW => iRoot W (B1.trans (hW.mono B1.size)) _ l (s1.later hW) (by omega) (fun s h => Nat.le_trans (hz s h) (by omega))
  have qt : ∀ W, Below W1.heap.size W1 W → ∀ (v' : Value) (t : List ByteArray), Sl W v' (ss t) → t.length ≤ 1000 → (∀ s ∈ t, s.size ≤ 1000) → _ := fun W hW v' t h1 h2 h3 => iTr W (B1.trans (hW.mono B1.size)) v' t h1 h2 h3
  have HQ : Hid (∀ {j q : Nat}, j ≤ 2 → q < tileCount (l.length : Int) (j : Int) → (tileOf l (j : Int) (q : Int)).length = min 4 (l.length / 4 ^ j - 4 * q) ∧ 4 * q < l.length / 4 ^ j ∧ ((tileOf l (j : Int) (q : Int)).length = 4 → ∃ x, (tileOf l ((j : Int) + 1) ((q : Int) / 4))[q % 4]? = some x ∧ tileRoot (tileOf l (j : Int) (q : Int)) = x)) := fun hj hq => tile_facts (by omega) hj hq
  have L1 : Below W1.heap.size W1 W1 := Below.refl _ _
  have HS1 : Hid (Sl W1 (.slice lo_ l.length lc) (ss l)) := s1
  clear qb qd iCnt iOf iTr iRoot hs hby s1 hz
  go_wp2
  go_loopw [4, 5] (fun sp lv wr => ∃ j P : Nat, j ≤ 3 ∧ P ≤ 64 ∧ 1 ≤ P ∧ Hid (P = 4 ^ j) ∧ lv = .int .i64 (j : Int) ∧ sp = .int .i64 (P : Int) ∧ Below W1.heap.size W1 wr) (fun _ lv _ => 3 - (intOf lv).toNat)
  case atStart => exact ⟨0, 1, by omega, by omega, by omega, rfl, rfl, rfl, L1⟩
  case round =>
    obtain ⟨j, P, hj, hP, hP1, HP, rfl, rfl, hb⟩ := hrel
    by_cases hlt : j < 3
    · have hlt' : (j : Int) < 3 := by omega
      have hTc : tileCount (l.length : Int) (j : Int) = (l.length / P + 3) / 4 := by rw [HP.out]; exact tileCount_yes (by omega) (by omega)
      obtain ⟨N, hN⟩ : ∃ N, l.length / P = N := ⟨_, rfl⟩
      have hN2 : N ≤ 33 := by rw [← hN]; exact Nat.le_trans (Nat.div_le_self _ _) hl
      have HF : Hid (∀ {q : Nat}, q < (N + 3) / 4 → (tileOf l (j : Int) (q : Int)).length = min 4 (N - 4 * q) ∧ 4 * q < N ∧ ((tileOf l (j : Int) (q : Int)).length = 4 → ∃ x, (tileOf l ((j : Int) + 1) ((q : Int) / 4))[q % 4]? = some x ∧ tileRoot (tileOf l (j : Int) (q : Int)) = x)) := by
        intro q hq
        have h := HQ.out (show j ≤ 2 by omega) (q := q) (by rw [hTc, hN]; exact hq)
        rw [← HP.out, hN] at h
        exact h
      have hdiv : wrap64 ((l.length : Int) / (P : Int)) = (N : Int) := by
        have e : (l.length : Int) / (P : Int) = (N : Int) := by rw [← hN]; simp
        rw [e]
        unfold wrap64
        omega
      have hPz : ¬ (P : Int) = 0 := by omega
      rw [hN] at hTc
      have qc : ∀ W, Below W1.heap.size W1 W → _ := fun W hW => qc W hW (l.length : Int) (j : Int)
      simp only [hTc] at qc
      obtain ⟨T, hT⟩ : ∃ T, (N + 3) / 4 = T := ⟨_, rfl⟩
      rw [hT] at qc HF
      have hT1 : T ≤ 9 := by omega
      have hT2 : N ≤ 4 * T := by omega
      have hT3 : 4 * T ≤ N + 3 := by omega
      have hN3 : 4 * P ≤ 256 := by omega
      clear hN hTc hT HQ
      go_wp2
      go_loopw [6, 7] (fun al iv wq => ∃ q A : Nat, q ≤ T ∧ A ≤ 4 * q ∧ A ≤ N ∧ (4 * q ≤ A ∨ N ≤ A) ∧ iv = .int .i64 (q : Int) ∧ al = .int .i64 (A : Int) ∧ Below W1.heap.size W1 wq) (fun _ iv _ => T - (intOf iv).toNat)
      case atStart => exact ⟨0, 0, by omega, by omega, by omega, by omega, rfl, rfl, hb⟩
      case round =>
        obtain ⟨q, A, hq, hA1, hA2, hA3, rfl, rfl, hb2⟩ := hrel
        have q3 := qc _ hb2
        clear hb
        go_wp2_with fail
        refine q3.mono ?_
        rintro e W3 ⟨rfl, x3⟩
        have B3 : Below W1.heap.size W1 W3 := hb2.trans (x3.mono hb2.size)
        clear q3 x3 hb2
        by_cases hqt : q < T
        · have hqt' : (q : Int) < (T : Int) := by omega
          obtain ⟨f1, f2, f3⟩ := HF.out hqt
          have q4 := qo W3 B3 (j : Int) (q : Int)
          obtain ⟨t, ht⟩ : ∃ t, tileOf l (j : Int) (q : Int) = t := ⟨_, rfl⟩
          rw [ht] at f1 f3 q4
          have l1 : 1 ≤ t.length := by omega
          have l2 : t.length ≤ 4 := by omega
          have l3 : t.length + 4 * q ≤ N := by omega
          have l4 : 4 ≤ t.length ∨ N ≤ t.length + 4 * q := by omega
          have zt : ∀ s ∈ t, s.size ≤ 1000 := by rw [← ht]; exact tileOf_small l _ _
          have HF3 : Hid _ := f3
          have d0 : ((t.length : Int) == 0) = false := by rw [beq_eq_false_iff_ne]; omega
          have d5 : ¬ (4 : Int) < (t.length : Int) := by omega
          clear f1 f3 ht
          go_wp2_with fail
          refine q4.mono ?_
          rintro e W4 ⟨v4, rfl, o4, x4⟩
          have B4 : Below W1.heap.size W1 W4 := B3.trans (x4.mono B3.size)
          have st : Hid (Sl W4 v4 (ss t)) := o4.sl
          obtain ⟨ta, tc, rfl⟩ := o4.len
          simp only [ss_len] at *
          clear q4 o4 x4 B3
          by_cases h4 : t.length = 4
          · obtain ⟨x, hx, hr⟩ := HF3.out h4
            have d4 : ((t.length : Int) == 4) = true := by rw [beq_iff_eq]; omega
            have q5 := qo W4 B4 ((j : Int) + 1) ((q : Int) / 4)
            obtain ⟨U, hU⟩ : ∃ U, tileOf l ((j : Int) + 1) ((q : Int) / 4) = U := ⟨_, rfl⟩
            rw [hU] at q5 hx
            have hUl : q % 4 < U.length := (List.getElem?_eq_some_iff.1 hx).1
            have qrt : ∀ W, Below W1.heap.size W1 W → Sl W (.slice ta t.length tc) (ss t) → _ := fun W hW hst => qt W hW _ t hst (by omega) zt
            simp only [hr] at qrt
            have HX : Hid (U[q % 4]? = some x) := hx
            have dg : ¬ (U.length : Int) ≤ (q : Int) % 4 := by omega
            have en : ((q : Int) % 4).toNat = q % 4 := by omega
            have em : (0 : Int) ≤ (q : Int) % 4 := by omega
            have el : (q : Int) % 4 < (U.length : Int) := by omega
            have ej : IntKind.i64.wrap ((j : Int) + 1) = (j : Int) + 1 := by rw [IntKind.wrap_i64]; omega
            clear hx hr hU h4 HF3 zt
            go_wp2_with fail
            refine q5.mono ?_
            rintro e W5 ⟨v5, rfl, o5, x5⟩
            have B5 : Below W1.heap.size W1 W5 := B4.trans (x5.mono B4.size)
            have s5 := o5.sl
            obtain ⟨ub, uo, uc, rfl, huc⟩ := slForm s5 (by rw [ss_len]; omega)
            have cu := slAt s5 HX.out
            have st5 : Hid (Sl W5 (.slice ta t.length tc) (ss t)) := st.out.later x5
            simp only [ss_len] at *
            have etm : (q : Int).tmod 4 = (q : Int) % 4 := Int.tmod_eq_emod_of_nonneg (by omega)
            have dgb : decide ((U.length : Int) ≤ (q : Int) % 4) = false := by rw [decide_eq_false_iff_not]; omega
            have qrt := qrt W5.drew (Below.drew B5) st5.out
            clear q5 o5 x5 B4 s5 HX st
            go_wp2_with fail
            refine wp_region_held_drew (S := fun w' => w'.cell? ⟨ub, uo + q % 4, none⟩ = some (.string x)) (by kernel_rfl) cu (fun hHeld => ?_)
            (refine wpAnyH_take (i := 0) (v := ?v0x1) rfl (by kernel_rfl) (by kernel_rfl) (by kernel_rfl) (fun _ _ _ h => h) (Or.inl ⟨by rfl, ?hy0x1⟩) (by assumption) ?rest0x1; case hy0x1 => (intro w hSw; (try dsimp only at hSw); go_split_ands; go_simp; (try with_reducible rfl)))
            try simp only [Act.put, List.setIfInBounds_toArray, List.set_cons_zero, List.set_cons_succ, List.getElem_toArray, List.getElem_cons_zero, List.getElem_cons_succ]
            (refine wpAnyH_take (i := 1) (v := ?v1x2) rfl (by kernel_rfl) (by kernel_rfl) (by kernel_rfl) (fun _ _ _ h => h) (Or.inl ⟨by rfl, ?hy1x2⟩) (by assumption) ?rest1x2; case hy1x2 => (intro w hSw; (try dsimp only at hSw); go_split_ands; go_simp; (try with_reducible rfl)))
            try simp only [Act.put, List.setIfInBounds_toArray, List.set_cons_zero, List.set_cons_succ, List.getElem_toArray, List.getElem_cons_zero, List.getElem_cons_succ]
            (refine wpAnyH_take (i := 2) (v := ?v2x3) rfl (by kernel_rfl) (by kernel_rfl) (by kernel_rfl) (fun _ _ _ h => h) (Or.inl ⟨by rfl, ?hy2x3⟩) (by assumption) ?rest2x3; case hy2x3 => (intro w hSw; (try dsimp only at hSw); go_split_ands; go_simp; (try with_reducible rfl)))
            try simp only [Act.put, List.setIfInBounds_toArray, List.set_cons_zero, List.set_cons_succ, List.getElem_toArray, List.getElem_cons_zero, List.getElem_cons_succ]
            (refine wpAnyH_take (i := 3) (v := ?v3x4) rfl (by kernel_rfl) (by kernel_rfl) (by kernel_rfl) (fun _ _ _ h => h) (Or.inl ⟨by rfl, ?hy3x4⟩) (by assumption) ?rest3x4; case hy3x4 => (intro w hSw; (try dsimp only at hSw); go_split_ands; go_simp; (try with_reducible rfl)))
            try simp only [Act.put, List.setIfInBounds_toArray, List.set_cons_zero, List.set_cons_succ, List.getElem_toArray, List.getElem_cons_zero, List.getElem_cons_succ]
            (refine wpAnyH_take (i := 4) (v := ?v4x5) rfl (by kernel_rfl) (by kernel_rfl) (by kernel_rfl) (fun _ _ _ h => h) (Or.inl ⟨by rfl, ?hy4x5⟩) (by assumption) ?rest4x5; case hy4x5 => (intro w hSw; (try dsimp only at hSw); go_split_ands; go_simp; (try with_reducible rfl)))
            try simp only [Act.put, List.setIfInBounds_toArray, List.set_cons_zero, List.set_cons_succ, List.getElem_toArray, List.getElem_cons_zero, List.getElem_cons_succ]
            (refine wpAnyH_take (i := 5) (v := ?v5x6) rfl (by kernel_rfl) (by kernel_rfl) (by kernel_rfl) (fun _ _ _ h => h) (Or.inl ⟨by rfl, ?hy5x6⟩) (by assumption) ?rest5x6; case hy5x6 => (intro w hSw; (try dsimp only at hSw); go_split_ands; go_simp; (try with_reducible rfl)))
            try simp only [Act.put, List.setIfInBounds_toArray, List.set_cons_zero, List.set_cons_succ, List.getElem_toArray, List.getElem_cons_zero, List.getElem_cons_succ]
            (refine wpAnyH_take (i := 6) (v := ?v6x7) rfl (by kernel_rfl) (by kernel_rfl) (by kernel_rfl) (fun _ _ _ h => h) (Or.inl ⟨by rfl, ?hy6x7⟩) (by assumption) ?rest6x7; case hy6x7 => (intro w hSw; (try dsimp only at hSw); go_split_ands; go_simp; (try with_reducible rfl)))
            try simp only [Act.put, List.setIfInBounds_toArray, List.set_cons_zero, List.set_cons_succ, List.getElem_toArray, List.getElem_cons_zero, List.getElem_cons_succ]
            (refine wpAnyH_take (i := 7) (v := ?v7x8) rfl (by kernel_rfl) (by kernel_rfl) (by kernel_rfl) (fun _ _ _ h => h) (Or.inl ⟨by rfl, ?hy7x8⟩) (by assumption) ?rest7x8; case hy7x8 => (intro w hSw; (try dsimp only at hSw); go_split_ands; go_simp; (try with_reducible rfl)))
            try simp only [Act.put, List.setIfInBounds_toArray, List.set_cons_zero, List.set_cons_succ, List.getElem_toArray, List.getElem_cons_zero, List.getElem_cons_succ]
            (refine wpAnyH_take (i := 8) (v := ?v8x9) rfl (by kernel_rfl) (by kernel_rfl) (by kernel_rfl) (fun _ _ _ h => h) (Or.inl ⟨by rfl, ?hy8x9⟩) (by assumption) ?rest8x9; case hy8x9 => (intro w hSw; (try dsimp only at hSw); go_split_ands; go_simp; (try with_reducible rfl)))
            try simp only [Act.put, List.setIfInBounds_toArray, List.set_cons_zero, List.set_cons_succ, List.getElem_toArray, List.getElem_cons_zero, List.getElem_cons_succ]
            (refine wpAnyH_take (i := 9) (v := ?v9x10) rfl (by kernel_rfl) (by kernel_rfl) (by kernel_rfl) (fun _ _ _ h => h) (Or.inl ⟨by rfl, ?hy9x10⟩) (by assumption) ?rest9x10; case hy9x10 => (intro w hSw; (try dsimp only at hSw); go_split_ands; go_simp; (try with_reducible rfl)))
            try simp only [Act.put, List.setIfInBounds_toArray, List.set_cons_zero, List.set_cons_succ, List.getElem_toArray, List.getElem_cons_zero, List.getElem_cons_succ]
            (refine wpAnyH_take (i := 10) (v := ?v10x11) rfl (by kernel_rfl) (by kernel_rfl) (by kernel_rfl) (fun _ _ _ h => h) (Or.inl ⟨by rfl, ?hy10x11⟩) (by assumption) ?rest10x11; case hy10x11 => (intro w hSw; (try dsimp only at hSw); go_split_ands; go_simp; (try with_reducible rfl)))
            try simp only [Act.put, List.setIfInBounds_toArray, List.set_cons_zero, List.set_cons_succ, List.getElem_toArray, List.getElem_cons_zero, List.getElem_cons_succ]
            (refine wpAnyH_take (i := 11) (v := ?v11x12) rfl (by kernel_rfl) (by kernel_rfl) (by kernel_rfl) (fun _ _ _ h => h) (Or.inl ⟨by rfl, ?hy11x12⟩) (by assumption) ?rest11x12; case hy11x12 => (intro w hSw; (try dsimp only at hSw); go_split_ands; go_simp; (try with_reducible rfl)))
            try simp only [Act.put, List.setIfInBounds_toArray, List.set_cons_zero, List.set_cons_succ, List.getElem_toArray, List.getElem_cons_zero, List.getElem_cons_succ]
            refine wpAnyH_ready (rs := [12]) (by kernel_rfl) (by simp) ?_
            refine AllReadyH.cons rfl (fun K hK => ?_) AllReadyH.nil
            go_simp
            refine qrt.mono ?_
            rintro e W6 ⟨rfl, x6⟩
            refine hK.out _ _ (keepC hHeld x6) (fun hHeld => ?_)
            clear hK K
            try simp only [Act.put, List.setIfInBounds_toArray, List.set_cons_zero, List.set_cons_succ, List.getElem_toArray, List.getElem_cons_zero, List.getElem_cons_succ]
            have B6 : Below W1.heap.size W1 W6 := (Below.drew B5).trans (x6.mono B5.size)
            (refine wpAnyH_take (i := 13) (v := ?v13x13) rfl (by kernel_rfl) (by kernel_rfl) (by kernel_rfl) (fun _ _ _ h => h) (Or.inl ⟨by rfl, ?hy13x13⟩) (by assumption) ?rest13x13; case hy13x13 => (intro w hSw; (try dsimp only at hSw); go_split_ands; go_simp; (try with_reducible rfl)))
            try simp only [Act.put, List.setIfInBounds_toArray, List.set_cons_zero, List.set_cons_succ, List.getElem_toArray, List.getElem_cons_zero, List.getElem_cons_succ]
            (refine wpAnyH_take (i := 14) (v := ?v14x14) rfl (by kernel_rfl) (by kernel_rfl) (by kernel_rfl) (fun _ _ _ h => h) (Or.inl ⟨by rfl, ?hy14x14⟩) (by assumption) ?rest14x14; case hy14x14 => (intro w hSw; (try dsimp only at hSw); go_split_ands; go_simp; (try with_reducible rfl)))
            try simp only [Act.put, List.setIfInBounds_toArray, List.set_cons_zero, List.set_cons_succ, List.getElem_toArray, List.getElem_cons_zero, List.getElem_cons_succ]
            refine wpAnyH_done (by kernel_rfl) ?_ _
            clear hHeld
            go_wp2
            go_roundw
            case rel => exact ⟨q + 1, A + t.length, by omega, by omega, by omega, by omega, by go_num, by go_num, B6⟩
            case measure => simp [intOf]; omega
          · have d4 : ((t.length : Int) == 4) = false := by rw [beq_eq_false_iff_ne]; omega
            clear HF3 zt
            go_wp2
            go_roundw
            case rel => exact ⟨q + 1, A + t.length, by omega, by omega, by omega, by omega, by go_num, by go_num, B4⟩
            case measure => simp [intOf]; omega
        · have hqt' : ¬ (q : Int) < (T : Int) := by omega
          have hAN : A = N := by omega
          subst hAN
          have HP2 : Hid (4 * P = 4 ^ (j + 1)) := by show _ = _; rw [Nat.pow_succ, ← HP.out]; omega
          have hPb : 4 * P ≤ 64 := by
            have h := (span_le (j + 1) (by omega)).2
            rw [← HP2.out] at h
            exact h
          clear HF HP
          go_wp2
          go_roundw
          case rel => exact ⟨j + 1, 4 * P, by omega, hPb, by omega, HP2, by go_num, by go_num, B3⟩
          case measure => simp [intOf]; omega
    · have hlt' : ¬ (j : Int) < 3 := by omega
      have q2 := qo _ hb 0 (-1)
      have e2 : tileOf l 0 (-1) = [] := tileOf_no (by omega)
      rw [e2] at q2
      have e3 : rootOf l = root l := rootOf_small (by omega)
      rw [e3] at qR
      have zr := root_size l
      obtain ⟨x, hx⟩ : ∃ x, root l = x := ⟨_, rfl⟩
      rw [hx] at qR zr
      have zr2 : (x.size : Int) = 32 := by omega
      clear e2 e3 hx HQ
      go_wp2_with fail
      refine q2.mono ?_
      rintro e W2 ⟨v2, rfl, o2, x2⟩
      have B2 : Below W1.heap.size W1 W2 := hb.trans (x2.mono hb.size)
      obtain ⟨a2, c2, rfl⟩ := o2.len
      simp only [ss_len, List.length_nil] at *
      have B3 : Below W1.heap.size W1 (W2.alloc (.cells #[] 9)) := B2.alloc B2.size _
      have q3 := qt (W2.alloc (.cells #[] 9)) B3 _ [] (emptyT W2 W2.heap.size (Nat.le_refl _)).sl (by simp) (fun s h => by cases h)
      have e4 : tileRoot [] = ⟨#[]⟩ := rfl
      rw [e4] at q3
      clear q2 o2 x2 hb B2 e4
      go_wp2_with fail
      refine q3.mono ?_
      rintro e W4 ⟨rfl, x4⟩
      have B4 : Below W1.heap.size W1 W4 := B3.trans (x4.mono B3.size)
      have q5 := qR W4 B4
      clear q3 x4 B3
      go_wp2_with fail
      refine q5.mono ?_
      rintro e W5 ⟨rfl, x5⟩
      have B5 : Below W1.heap.size W1 W5 := B4.trans (x5.mono B4.size)
      have B6 : Below W1.heap.size W1 (W5.alloc (.cells #[.string x] 9)) := B5.alloc B5.size _
      have q6 := qt (W5.alloc (.cells #[.string x] 9)) B6 _ [x] (Laws.Sl.one W5 (.string x) 9) (by simp) (fun s h => by rw [List.mem_singleton] at h; rw [h]; omega)
      have e6 : tileRoot [x] = x := rfl
      rw [e6] at q6
      clear q5 x5 B4 B5 e6 qR qt qo qc
      go_wp2_with fail
      refine q6.mono ?_
      rintro e W7 ⟨rfl, x7⟩
      have B7 : Below w.heap.size w W7 := B1.trans ((B6.trans (x7.mono B6.size)).mono B1.size)
      go_wp2
      go_ret
      exact ⟨rfl, B7⟩

end Go.Proofs.YthcmkpdmdkpebaaDoor.Ti
