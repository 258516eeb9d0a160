/- Numbers and texts put onto a row that the caller owns: every row of another type stays. -/
import Derived.Test.YteemblfjghnooaaPuts2
import Derived.Test.YteemblfjghnooaaGro
namespace Go.Proofs.Yteemblfjghnooaa.Puts
open Go.RowKit Go.Proofs.Yteemblfjghnooaa.Mem Go.Proofs.Yteemblfjghnooaa.Plain Go.Proofs.Yteemblfjghnooaa.Laws Go.Proofs.Yteemblfjghnooaa.Bytes
set_option linter.unusedVariables false
set_option linter.unusedSimpArgs false

/-- rows that are not of bytes stay -/
def Kr (w w' : World) : Prop := ∀ (g : Nat) (cs : Array Value) (t : TypeId) (fr : Nat × Nat), t ≠ 5 → w.heap[g]? = some (.cells cs t fr) → w'.heap[g]? = some (.cells cs t fr)
theorem Kr.refl (w : World) : Kr w w := fun _ _ _ _ _ h => h
theorem Kr.trans {a b c : World} (h : Kr a b) (k : Kr b c) : Kr a c := fun g cs t fr ht hg => k g cs t fr ht (h g cs t fr ht hg)
theorem Kr.alloc (w : World) (o : Obj) : Kr w (w.alloc o) := fun g cs t fr _ hg => (heap_alloc_old w o (Array.getElem?_eq_some_iff.1 hg).1).trans hg
theorem Kr.gro {w w' : World} {lo hi : Nat} {v : Value} {cs : List Value} (h : Own w lo hi 5 v cs) (g : w.grownBy w' v.ownBlock) : Kr w w' := fun k c t fr ht hk => rowGro hk g (Own.neRow h hk ht)
theorem Kr.later {w w' : World} (h : Below w.heap.size w w') : Kr w w' := fun g cs t fr _ hg => (h.block g (Array.getElem?_eq_some_iff.1 hg).1).trans hg
theorem new_row (w : World) (u : Value) (t : TypeId) : (w.alloc (.cells #[u] t)).heap[w.heap.size]? = some (.cells #[u] t (0, 0)) := heap_alloc_new w _
theorem row_cell {w : World} {g : Nat} {u : Value} {t : TypeId} (h : w.heap[g]? = some (.cells #[u] t (0, 0))) : w.cell? ⟨g, 0, none⟩ = some u := by
  simp [World.cell?, h]

set_option maxRecDepth 1000000 in
set_option maxHeartbeats 2000000 in
theorem nums_keep (w : World) (lo : Nat) (v : Value) (xs : List Int) (g off cap : Nat) (ns : List Int) (h : Own w lo w.heap.size 5 v (bs xs)) (hlo : lo ≤ w.heap.size) (hx : xs.length ≤ 70368744177664) (hn : ns.length ≤ 1000)
    (hcell : ∀ w', Kr w w' → ∀ (j : Nat) (n : Int), ns[j]? = some n → w'.cell? ⟨g, off + j, none⟩ = some (.int .i64 n)) :
    Calls Try.prog 28 #[v, .slice (some ⟨g, off, none⟩) ns.length cap] w fun e w' => ∃ v', e = .returned v' ∧ Own w' lo w'.heap.size 5 v' (bs (xs ++ numsB ns)) ∧ Below lo w w' ∧ Kr w w' := by
  obtain ⟨i0, hi, hz0, hz1, hz2⟩ := info_parts info5
  have HC : Hid (∀ w', Kr w w' → ∀ (j : Nat) (n : Int), ns[j]? = some n → w'.cell? ⟨g, off + j, none⟩ = some (.int .i64 n)) := hcell
  obtain ⟨N, hN⟩ : ∃ N, ns.length = N := ⟨_, rfl⟩
  have HN : Hid (ns.length = N) := hN
  rw [hN] at hn ⊢
  clear hcell hN
  go_enter Try.func28, Try.ntmps28
  go_wp2
  go_loopw [0, 9] (fun b i wr => ∃ (k : Nat) (zs : List Int), k ≤ N ∧ i = .int .i64 (k : Int) ∧ Hid (zs ++ numsB (ns.drop k) = xs ++ numsB ns) ∧ zs.length ≤ xs.length + 5 * k ∧ Own wr lo wr.heap.size 5 b (bs zs) ∧ Below lo w wr ∧ Kr w wr) (fun _ i _ => N - (intOf i).toNat)
  case atStart => exact ⟨0, xs, Nat.zero_le _, rfl, rfl, by omega, h, Below.refl _ _, Kr.refl _⟩
  case round =>
    obtain ⟨k, zs, hk, rfl, HE, hzl, ho, hb, hkr⟩ := hrel
    have hkr : Hid (Kr w wr) := hkr
    have hsz := hb.size
    by_cases hlt : k < N
    · obtain ⟨n, hnk⟩ : ∃ n, ns[k]? = some n := ⟨ns[k]'(by rw [HN.out]; exact hlt), by simp⟩
      have HD : Hid (ns.drop k = n :: ns.drop (k + 1)) := by
        obtain ⟨hk', rfl⟩ := List.getElem?_eq_some_iff.1 hnk
        exact List.drop_eq_getElem_cons hk'
      have hcell := HC.out wr hkr.out k n hnk
      have HNX : Hid ((zs ++ num n) ++ numsB (ns.drop (k + 1)) = xs ++ numsB ns) := by
        show _ = _; rw [← HE.out, HD.out, numsB_cons, List.append_assoc]
      have hlt' : (k : Int) < (N : Int) := by omega
      have hcb := clampN_bd n
      clear hnk HD HE h
      go_wp2_with (go_at_call 56; refine (near_any _ _).mono ?_; rintro e w' ⟨rfl, rfl⟩)
      obtain ⟨m0, hm0⟩ : ∃ m0 : Nat, clampN n = (m0 : Int) := ⟨(clampN n).toNat, by omega⟩
      have HM : Hid (num n = enc m0) := by show num n = enc m0; unfold num; rw [hm0]; rfl
      have hm0b : m0 ≤ 1000000000 := by omega
      have hnl := num_len n
      rw [hm0]
      clear hcb hcell hm0
      go_loopw [0, 6] (fun b nn wr => ∃ (m : Nat) (ys : List Int), m ≤ 1000000000 ∧ nn = .int .i64 m ∧ Hid (ys ++ enc m = zs ++ num n) ∧ Own wr lo wr.heap.size 5 b (bs ys) ∧ Below lo w wr ∧ Kr w wr) (fun _ nn _ => (intOf nn).toNat)
      case atStart => exact ⟨m0, zs, hm0b, rfl, by show _ = _; rw [HM.out], ho, hb, hkr.out⟩
      case round =>
        obtain ⟨m, ys, hm, rfl, HE, ho, hb, hkr0⟩ := hrel
        clear hkr
        have hkr : Hid (Kr w wr) := hkr0
        clear hkr0
        have hyl : ys.length ≤ zs.length + 5 := by have := congrArg List.length HE.out; simp at this; omega
        have hsz := hb.size
        clear HM
        by_cases hl8 : 128 ≤ m
        · have HS : Hid ((ys ++ [((m % 128 + 128 : Nat) : Int)]) ++ enc (m / 128) = zs ++ num n) := by
            show _ = _; rw [← HE.out, enc_step (show ¬ m < 128 by omega), List.append_assoc]; rfl
          have c2 : (bs ys).length + 1 ≤ maxLen := by rw [bs_len]; unfold maxLen; omega
          have c3 : ((bs ys).length + 1) * 1 ≤ 140737488355328 := by rw [bs_len]; omega
          have c4 : ∀ o, lo ≤ (wr.alloc o).heap.size := fun o => by simp; omega
          go_wp2_with (at_builtin; go_must (refine wpl_app _ rfl (.tmp 17) (.tmp 22) 22 rfl 5 i0 (.int .u8 0) 1 Try.underlying22 hi hz0 hz1 hz2 rfl lo _ (bs ys) rfl (ho.alloc _) _ rfl [.int .u8 ((m : Int) % 128 + 128)] (Sl.one _ _ _) (one_byte _) c2 c3 (c4 _) ?_); intro v1 w1 ho1 hb1 hg1)
          have hb2 : Below lo w w1 := (hb.alloc (by omega) _).trans hb1
          have hkr2 : Hid (Kr w w1) := (hkr.out.trans (Kr.alloc _ _)).trans (Kr.gro (ho.alloc _) hg1)
          have ho2 : Own w1 lo w1.heap.size 5 v1 (bs (ys ++ [((m % 128 + 128 : Nat) : Int)])) := by rw [bs_app]; exact ho1
          go_roundw
          case rel => exact ⟨m / 128, ys ++ [((m % 128 + 128 : Nat) : Int)], by omega, by go_num, HS, ho2, hb2, hkr2.out⟩
          case measure => simp [intOf]; omega
        · have c2 : (bs ys).length + 1 ≤ maxLen := by rw [bs_len]; unfold maxLen; omega
          have c3 : ((bs ys).length + 1) * 1 ≤ 140737488355328 := by rw [bs_len]; omega
          have c4 : ∀ o, lo ≤ (wr.alloc o).heap.size := fun o => by simp; omega
          have HS : Hid (ys ++ [(m : Int)] = zs ++ num n) := by show _ = _; rw [← HE.out, enc_small (show m < 128 by omega)]
          go_wp2_with (at_builtin; go_must (refine wpl_app _ rfl (.tmp 26) (.tmp 29) 22 rfl 5 i0 (.int .u8 0) 1 Try.underlying22 hi hz0 hz1 hz2 rfl lo _ (bs ys) rfl (ho.alloc _) _ rfl [.int .u8 (m : Int)] (Sl.one _ _ _) (one_byte _) c2 c3 (c4 _) ?_); intro v1 w1 ho1 hb1 hg1)
          have hb2 : Below lo w w1 := (hb.alloc (by omega) _).trans hb1
          have hkr2 : Hid (Kr w w1) := (hkr.out.trans (Kr.alloc _ _)).trans (Kr.gro (ho.alloc _) hg1)
          have ho2 : Own w1 lo w1.heap.size 5 v1 (bs (zs ++ num n)) := by rw [← HS.out, bs_app]; exact ho1
          have hzn : (zs ++ num n).length ≤ xs.length + 5 * (k + 1) := by rw [List.length_append]; omega
          go_roundw
          case rel => exact ⟨k + 1, zs ++ num n, by omega, by go_num, HNX, hzn, ho2, hb2, hkr2.out⟩
          case measure => simp [intOf]; omega
    · have hlt' : ¬ (k : Int) < (N : Int) := by omega
      go_wp2
      go_ret
      have h1 := HE.out
      rw [List.drop_eq_nil_of_le (by rw [HN.out]; omega)] at h1
      have h2 : numsB [] = [] := rfl
      rw [h2, List.append_nil] at h1
      rw [h1] at ho
      exact ⟨_, rfl, ho, hb, hkr.out⟩

/-- one number -/
theorem nums_keep1 (w : World) (lo : Nat) (v : Value) (xs : List Int) (g : Nat) (n : Int) (h : Own w lo w.heap.size 5 v (bs xs)) (hg : g < w.heap.size) (hlo : lo ≤ w.heap.size) (hx : xs.length ≤ 70368744177664)
    (hrow : w.heap[g]? = some (.cells #[.int .i64 n] 3 (0, 0))) :
    Calls Try.prog 28 #[v, .slice (some ⟨g, 0, none⟩) 1 1] w fun e w' => ∃ v', e = .returned v' ∧ Own w' lo w'.heap.size 5 v' (bs (xs ++ num n)) ∧ Below lo w w' ∧ Kr w w' := by
  refine (nums_keep w lo v xs g 0 1 [n] h hlo hx (by simp) ?_).mono ?_
  · intro w' hk j m hj
    cases j with
    | zero => simp at hj; subst hj; exact row_cell (hk g _ _ _ (by decide) hrow)
    | succ j => simp at hj
  · rintro e w' ⟨v', rfl, ho, hb, hk⟩
    have e9 : numsB [n] = num n := by simp [numsB]
    rw [e9] at ho
    exact ⟨v', rfl, ho, hb, hk⟩

set_option maxRecDepth 1000000 in
set_option maxHeartbeats 1000000 in
/-- addTexts, onto a row that the caller owns; the texts lie ahead of it, or there is one of them alone. -/
theorem texts_keep (w : World) (lo : Nat) (v : Value) (xs : List Int) (vt : Value) (l : List ByteArray) (h : Own w lo w.heap.size 5 v (bs xs)) (hlo : lo ≤ w.heap.size) (ht : Sl w vt (ss l)) (hkeep : ∀ w', Below lo w w' → 1 < l.length → Sl w' vt (ss l))
    (hx : xs.length + (txs l).length ≤ 35184372088832) (hl : l.length ≤ 35184372088832) :
    Calls Try.prog 30 #[v, vt] w fun e w' => ∃ v', e = .returned v' ∧ Own w' lo w'.heap.size 5 v' (bs (xs ++ txs l)) ∧ Below lo w w' ∧ Kr w w' := by
  obtain ⟨i0, hi, hz0, hz1, hz2⟩ := info_parts info5
  obtain ⟨ao, cap, rfl, hc, hn, hr⟩ := ht
  rw [ss_len] at hr hc hkeep
  rw [ss_len]
  go_enter Try.func30, Try.ntmps30
  go_wp2
  go_loopw [0, 9] (fun b i wr => ∃ (k : Nat) (ys : List Int), k ≤ l.length ∧ i = .int .i64 k ∧ ys ++ txs (l.drop k) = xs ++ txs l ∧ Own wr lo wr.heap.size 5 b (bs ys) ∧ Below lo w wr ∧ Kr w wr ∧ (k = 0 → wr = w)) (fun _ i _ => l.length - (intOf i).toNat)
  case atStart => exact ⟨0, xs, Nat.zero_le _, rfl, rfl, h, Below.refl _ _, Kr.refl _, fun _ => rfl⟩
  case round =>
    obtain ⟨k, ys, hk, rfl, hE0, ho, hb, hkr0, hfirst⟩ := hrel
    have hkr : Hid (Kr w wr) := hkr0
    clear hkr0
    have HE : Hid (ys ++ txs (l.drop k) = xs ++ txs l) := hE0
    have hsz := hb.size
    by_cases hlt : k < l.length
    · obtain ⟨s, hs0⟩ : ∃ s, l[k]? = some s := ⟨l[k], by simp⟩
      have HD : Hid (l.drop k = s :: l.drop (k + 1)) := by
        obtain ⟨hk', rfl⟩ := List.getElem?_eq_some_iff.1 hs0
        exact List.drop_eq_getElem_cons hk'
      have hlen : ys.length + (tx s).length ≤ 35184372088832 := by
        have h1 := congrArg List.length HE.out
        rw [HD.out] at h1
        simp only [txs, List.length_append] at h1
        omega
      have htl : s.size ≤ (tx s).length := by unfold tx; rw [List.length_append, sb_len]; omega
      have hnl := num_len (s.size : Int)
      have hcl : ∃ b off, ao = some ⟨b, off, none⟩ ∧ wr.cell? ⟨b, off + k, none⟩ = some (.string s) := by
        have key : ∀ w0 : World, (0 < l.length → ∃ b off, ao = some ⟨b, off, none⟩ ∧ ∀ j, j < l.length → w0.cell? ⟨b, off + j, none⟩ = (ss l)[j]?) → ∃ b off, ao = some ⟨b, off, none⟩ ∧ w0.cell? ⟨b, off + k, none⟩ = some (.string s) := by
          intro w0 hq
          obtain ⟨b, off, he, hc⟩ := hq (by omega)
          exact ⟨b, off, he, by rw [hc k hlt]; simp [ss, hs0]⟩
        by_cases h0 : k = 0
        · rw [hfirst h0]; exact key w hr
        · obtain ⟨ao', cap', he, _, _, hr'⟩ := hkeep wr hb (by omega)
          rw [ss_len] at he hr'
          simp only [Value.slice.injEq] at he
          obtain ⟨rfl, _, rfl⟩ := he
          exact key wr hr'
      obtain ⟨b, off, rfl, hcell⟩ := hcl
      have HN : Hid ((ys ++ tx s) ++ txs (l.drop (k + 1)) = xs ++ txs l) := by
        show _ = _; rw [← HE.out, HD.out, List.append_assoc]; rfl
      clear hs0 HD hE0 HE hr hkeep hfirst h
      have hss : (s.size : Int) ≤ 35184372088832 := by omega
      go_wp2_with fail
      refine (nums_keep1 _ lo _ ys wr.heap.size (s.size : Int) (ho.alloc _) (by simp) (by simp; omega) (by omega) (new_row _ _ _)).mono ?_
      rintro e w1 ⟨v1, rfl, ho1, hb1, hk1⟩
      have hkr1 : Hid (Kr w w1) := (hkr.out.trans (Kr.alloc _ _)).trans hk1
      clear hk1
      have hb1' : Below lo w w1 := (hb.alloc (by omega) _).trans hb1
      have hsz1 : lo ≤ w1.heap.size := by have := hb1'.size; omega
      have c1 : (ys ++ num (s.size : Int)).length + s.size ≤ 140737488355328 := by rw [List.length_append]; omega
      go_wp2_with (at_builtin; go_must (refine wpl_strG _ rfl (.tmp 17) (.tmp 18) 22 9 rfl 5 i0 Try.underlying22 Try.underlying9 hi hz0 hz1 hz2 lo _ _ rfl ho1 s rfl c1 hsz1 ?_); intro v2 w2 ho2 hg2)
      have hb2 : Below lo w1 w2 := belowGro (Below.refl _ _) hg2 hsz1 (Own.low ho1 (Nat.le_refl _))
      have hkr2 : Hid (Kr w w2) := hkr1.out.trans (Kr.gro ho1 hg2)
      clear hg2 hkr1
      rw [List.append_assoc] at ho2
      have hb3 : Below lo w w2 := hb1'.trans hb2
      go_roundw
      case rel => exact ⟨k + 1, ys ++ tx s, by omega, by go_num, HN.out, ho2, hb3, hkr2.out, fun h => by omega⟩
      case measure => simp [intOf]; omega
    · go_wp2
      go_ret
      have h1 := HE.out
      rw [List.drop_eq_nil_of_le (by omega)] at h1
      simp only [txs, List.append_nil] at h1
      rw [h1] at ho
      exact ⟨_, rfl, ho, hb, hkr.out⟩

end Go.Proofs.Yteemblfjghnooaa.Puts
