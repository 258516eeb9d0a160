/- Chapter 10, the landed code: whether a head was signed; the best head. -/
import Derived.Test.YtanidhhcedinoaaHfA
namespace Go.Proofs.Ytanidhhcedinoaa.He
open Go.RowKit Go.Proofs.Ytanidhhcedinoaa.Mem Go.Proofs.Ytanidhhcedinoaa.Laws Go.Proofs.Ytanidhhcedinoaa.Bytes Go.Proofs.Ytanidhhcedinoaa.Sha Go.Proofs.Ytanidhhcedinoaa.Tr
set_option linter.unusedVariables false
set_option linter.unusedSimpArgs false

theorem pk_one {a b : Hd} (h : eqH a b = true) : pk a b = 1 := by unfold pk; rw [if_pos h]
theorem pk_not {a b : Hd} (h : ¬ eqH a b = true) : (pk a b == 1) = false := by
  unfold pk
  rw [if_neg h, beq_eq_false_iff_ne]
  split <;> decide
/-- cells that stay where one more block is made -/
theorem keepA {W : World} {p : Addr} {x : Value} (h : W.cell? p = some x) (o : Obj) : (W.alloc o).cell? p = some x := keepH h ((Below.refl _ _).alloc (Nat.le_refl _) o)

set_option maxRecDepth 1000000 in
set_option maxHeartbeats 2000000 in
theorem signed_impl (w : World) (v : Value) (t : List Hd) (h : Hd) (hs : Sh w v t) (hx : t.length ≤ 1000000000000) :
    Calls Try.prog 11 #[v, .agg #[.int .i64 h.n, .string h.r]] w fun e w' => e = .returned (.bool (signed t h)) ∧ Below w.heap.size w w' := by
  obtain ⟨W, hW, r0, bW, yW⟩ : ∃ W, Hid (w.alloc (.cells #[.int .i64 h.n, .string h.r] 27) = W) ∧ W.heap[w.heap.size]? = some (.cells (hc h) 27 (0, 0)) ∧ Below w.heap.size w W ∧ w.heap.size + 1 ≤ W.heap.size := ⟨_, rfl, heap_alloc_new w _, (Below.refl _ _).alloc (Nat.le_refl _) _, by simp⟩
  have HS : Hid (Sh W v t) := hs.later bW
  have HR : Hid (W.heap[w.heap.size]? = some (.cells (hc h) 27 (0, 0))) := r0
  have HBW : Hid (Below w.heap.size w W) := bW
  obtain ⟨ao, cap, rfl, hcap⟩ := Sh.form hs
  obtain ⟨S, hS⟩ : ∃ S, signed t h = S := ⟨_, rfl⟩
  rw [hS]
  have HSS : Hid (signed t h = S) := hS
  clear hs hS r0 bW
  go_enter Try.func11, Try.ntmps11
  go_wp2
  rw [hW.out]
  go_loopw [9] (fun i wr => ∃ k : Nat, k ≤ t.length ∧ i = .int .i64 (k : Int) ∧ Hid (signed (t.take k) h = false) ∧ Hid (Below W.heap.size W wr)) (fun i _ => t.length - (intOf i).toNat)
  case atStart => exact ⟨0, Nat.zero_le _, rfl, rfl, Below.refl _ _⟩
  case round =>
    obtain ⟨k, hk, rfl, HK, hB⟩ := hrel
    by_cases hlt : k < t.length
    · obtain ⟨x, hx0⟩ : ∃ x, t[k]? = some x := ⟨t[k], by simp [hlt]⟩
      obtain ⟨b, off, cap', he, _, c0, c1⟩ := Sh.at (HS.out.later hB.out) hx0
      simp only [Value.slice.injEq] at he
      obtain ⟨rfl, _, rfl⟩ := he
      have p0 : wr.cell? ⟨w.heap.size, 0, none⟩ = some (.int .i64 h.n) := row_at (rowKeep HR.out hB.out) 0
      have p1 : wr.cell? ⟨w.heap.size, 1, none⟩ = some (.string h.r) := row_at (rowKeep HR.out hB.out) 1
      have a0 := keepA p0 (.cells #[.int .i64 x.n, .string x.r] 27)
      have a1 := keepA p1 (.cells #[.int .i64 x.n, .string x.r] 27)
      have q : ∀ X, _ := fun X => pair_impl X x h
      have HA : Hid (Below W.heap.size W (wr.alloc (.cells #[.int .i64 x.n, .string x.r] 27))) := hB.out.alloc hB.out.size _
      by_cases hxh : eqH x h = true
      · have HF : Hid (S = true) := by show _ = _; rw [← HSS.out]; exact signed_yes hx0 hxh
        simp only [pk_one hxh] at q
        clear hx0 HK hxh
        go_wp2_with fail
        refine (q _).mono ?_
        rintro e w4 ⟨rfl, b4⟩
        clear a0 a1 p0 p1 c0 c1
        go_wp2
        go_ret
        exact ⟨by rw [HF.out]; rfl, HBW.out.trans ((HA.out.trans (b4.mono HA.out.size)).mono HBW.out.size)⟩
      · have hxf : eqH x h = false := by simpa using hxh
        have HN : Hid (signed (t.take (k + 1)) h = false) := by show _ = _; rw [signed_snoc hx0, HK.out, hxf]; rfl
        have pn := pk_not hxh
        obtain ⟨P, hP⟩ : ∃ P, pk x h = P := ⟨_, rfl⟩
        rw [hP] at pn
        simp only [hP] at q
        clear hx0 HK hxh hxf hP
        go_wp2_with fail
        refine (q _).mono ?_
        rintro e w4 ⟨rfl, b4⟩
        clear a0 a1 p0 p1 c0 c1
        go_wp2
        go_roundw
        case rel => exact ⟨k + 1, by omega, by go_num, HN, HA.out.trans (b4.mono HA.out.size)⟩
        case measure => simp [intOf]; omega
    · have HF : Hid (S = false) := by
        show _ = _
        have h1 := HK.out
        rw [List.take_of_length_le (by omega)] at h1
        rw [← HSS.out, h1]
      clear HK
      go_wp2
      go_ret
      exact ⟨by rw [HF.out]; rfl, HBW.out.trans (hB.out.mono HBW.out.size)⟩

theorem bestF_in (b : Hd) (r : List Hd) : bestF b r = b ∨ bestF b r ∈ r := by
  induction r generalizing b with
  | nil => exact Or.inl rfl
  | cons y r ih =>
    unfold bestF
    split
    · rcases ih y with h | h
      · exact Or.inr (by rw [h]; exact List.mem_cons_self ..)
      · exact Or.inr (List.mem_cons_of_mem _ h)
    · rcases ih b with h | h
      · exact Or.inl h
      · exact Or.inr (List.mem_cons_of_mem _ h)
theorem bestF_size (q : Hd) (l : List Hd) (hy : ∀ x ∈ q :: l, x.r.size ≤ 1000000000000) (k : Nat) : (bestF q (l.take k)).r.size ≤ 1000000000000 := by
  rcases bestF_in q (l.take k) with h | h
  · rw [h]; exact hy q (List.mem_cons_self ..)
  · exact hy _ (List.mem_cons_of_mem _ (List.mem_of_mem_take h))

set_option maxRecDepth 1000000 in
set_option maxHeartbeats 4000000 in
theorem best_impl (w : World) (v : Value) (t : List Hd) (hs : Sh w v t) (hx : t.length ≤ 1000000000000) (hy : ∀ x ∈ t, x.r.size ≤ 1000000000000) :
    Calls Try.prog 10 #[v] w fun e w' => e = .returned (.agg #[.int .i64 (best t).n, .string (best t).r]) ∧ Below w.heap.size w w' := by
  cases t with
  | nil =>
    obtain ⟨ao, cap, rfl, hcap⟩ := Sh.form hs
    have HR : Hid ((w.alloc (.cells #[.int .i64 0, .string ⟨#[]⟩] 27)).heap[w.heap.size]? = some (.cells (hc hd0) 27 (0, 0))) := heap_alloc_new w _
    have HB : Hid (Below w.heap.size w (w.alloc (.cells #[.int .i64 0, .string ⟨#[]⟩] 27))) := (Below.refl _ _).alloc (Nat.le_refl _) _
    clear hs
    go_enter Try.func10, Try.ntmps10
    go_wp2_with (refine wpList_store_row rfl 27 _ _ rfl w.heap.size (hc hd0) rfl rfl 27 _ HR.out (sizeH hd0) rfl (oneH hd0) ?_)
    exact bodyPost_ret (v := .agg (hc hd0)) (results_cell_row rfl _ _ w.heap.size 27 _ (0, 0) _ rfl (setRow_heap _ _ _ _ _ (0, 0) HR.out) Try.underlying27 rfl (sizeH hd0)) rfl ⟨rfl, below_setRow HB.out (Nat.le_refl _) _⟩
  | cons q l =>
    have HS : Hid (Sh w v (q :: l)) := hs
    have HY : Hid (∀ k, (bestF q (l.take k)).r.size ≤ 1000000000000) := bestF_size q l hy
    obtain ⟨b, off, cap, rfl, hcap, c0, c1⟩ := Sh.at hs (k := 0) (q := q) rfl
    simp only [Nat.zero_mul, Nat.add_zero] at c0 c1
    have hbw : b < w.heap.size := World.block_lt_of_cell? w _ c0
    simp only [List.length_cons] at *
    have d0 : (((l.length : Int) + 1) == 0) = false := by rw [beq_eq_false_iff_ne]; omega
    have HA0 : Hid (((w.alloc (.cells #[.int .i64 0, .string ⟨#[]⟩] 27)).alloc (.cells #[.int .i64 q.n, .string q.r] 27)).heap[w.heap.size + 1]? = some (.cells (hc q) 27 (0, 0))) := heap_alloc2_new w _ _
    have HA1 : Hid (((w.alloc (.cells #[.int .i64 0, .string ⟨#[]⟩] 27)).alloc (.cells #[.int .i64 q.n, .string q.r] 27)).heap[w.heap.size]? = some (.cells (hc hd0) 27 (0, 0))) := heap_alloc2_old w _ _
    have HAB : Hid (Below w.heap.size w ((w.alloc (.cells #[.int .i64 0, .string ⟨#[]⟩] 27)).alloc (.cells #[.int .i64 q.n, .string q.r] 27))) := ((Below.refl _ _).alloc (Nat.le_refl _) _).alloc (by simp) _
    obtain ⟨M, hM⟩ : ∃ M, bestF q l = M := ⟨_, rfl⟩
    have HM : Hid (bestF q l = M) := hM
    have e0 : best (q :: l) = M := hM
    rw [e0]
    clear hs e0 hM hy
    by_cases hc1 : cap = 1
    · have hl0 : l.length = 0 := by omega
      have hl : l = [] := List.eq_nil_of_length_eq_zero hl0
      subst hl
      subst hc1
      have HF : Hid (q = M) := HM.out
      have hm := HY.out 0
      simp only [List.length_nil] at *
      go_enter Try.func10, Try.ntmps10
      go_wp2_with fail
      go_loopw [16] (fun i wr => i = .int .i64 0 ∧ wr.heap[w.heap.size + 1]? = some (.cells (hc q) 27 (0, 0)) ∧ wr.heap[w.heap.size]? = some (.cells (hc hd0) 27 (0, 0)) ∧ Below w.heap.size w wr) (fun i _ => 0)
      case atStart => exact ⟨rfl, HA0.out, HA1.out, HAB.out⟩
      case round =>
        obtain ⟨rfl, r1, r0, hb⟩ := hrel
        clear c0 c1 HA0 HA1 HAB
        clear HM
        have m1 : ∀ X, _ := fun X => own_impl X q hm
        go_wp2_with (refine wpList_load_row rfl 27 _ rfl (w.heap.size + 1) rfl 27 (hc q) (0, 0) _ r1 Try.underlying27 rfl (sizeH q) ?_)
        refine (m1 _).mono ?_
        rintro e w4 ⟨rfl, b4⟩
        have r4 := rowKeep r0 b4
        have B4 : Below w.heap.size w w4 := hb.trans (b4.mono hb.size)
        clear r1 r0 m1
        go_wp2_with (refine wpList_store_row rfl 27 _ _ rfl w.heap.size (hc q) rfl rfl 27 _ r4 (sizeH q) rfl (oneH q) ?_)
        exact bodyPost_ret (v := .agg (hc q)) (results_cell_row rfl _ _ w.heap.size 27 _ (0, 0) _ rfl (setRow_heap _ _ _ _ _ (0, 0) r4) Try.underlying27 rfl (sizeH q)) rfl ⟨by rw [← HF.out]; rfl, below_setRow B4 (Nat.le_refl _) _⟩
    · go_enter Try.func10, Try.ntmps10
      go_wp2_with fail
      go_loopw [16] (fun i wr => ∃ (k : Nat) (m : Hd), k ≤ l.length ∧ i = .int .i64 (k : Int) ∧ Hid (m = bestF q (l.take k)) ∧ wr.heap[w.heap.size + 1]? = some (.cells (hc m) 27 (0, 0)) ∧ wr.heap[w.heap.size]? = some (.cells (hc hd0) 27 (0, 0)) ∧ Below w.heap.size w wr ∧ w.heap.size + 2 ≤ wr.heap.size) (fun i _ => l.length - (intOf i).toNat)
      case atStart => exact ⟨0, q, Nat.zero_le _, rfl, rfl, HA0.out, HA1.out, HAB.out, by simp⟩
      case round =>
        obtain ⟨k, m, hk, rfl, HK, r1, r0, hb, yb⟩ := hrel
        clear c0 c1 HA0 HA1 HAB
        by_cases hlt : k < l.length
        · obtain ⟨x, hx0⟩ : ∃ x, l[k]? = some x := ⟨l[k], by simp [hlt]⟩
          obtain ⟨b', off', cap', he, _, c0, c1⟩ := Sh.at (HS.out.later hb) (k := k + 1) (q := x) (by simpa using hx0)
          simp only [Value.slice.injEq, Option.some.injEq, Addr.mk.injEq, and_true] at he
          obtain ⟨⟨rfl, rfl⟩, -, rfl⟩ := he
          have ek : off + (k + 1) * 2 = off + 2 + k * 2 := by omega
          rw [ek] at c0 c1
          have HN := bestF_snoc q (l.take k) x
          have ht : l.take (k + 1) = l.take k ++ [x] := by rw [List.take_add_one, hx0]; rfl
          rw [← ht, ← HK.out] at HN
          have m0 : wr.cell? ⟨w.heap.size + 1, 0, none⟩ = some (.int .i64 m.n) := row_at r1 0
          have a0 := keepA m0 (.cells #[.int .i64 x.n, .string x.r] 27)
          have HAb : Hid (Below wr.heap.size wr (wr.alloc (.cells #[.int .i64 x.n, .string x.r] 27))) := (Below.refl _ _).alloc (Nat.le_refl _) _
          have HR1 : Hid ((wr.alloc (.cells #[.int .i64 x.n, .string x.r] 27)).heap[w.heap.size + 1]? = some (.cells (hc m) 27 (0, 0))) := rowKeep r1 HAb.out
          have HR0 : Hid ((wr.alloc (.cells #[.int .i64 x.n, .string x.r] 27)).heap[w.heap.size]? = some (.cells (hc hd0) 27 (0, 0))) := rowKeep r0 HAb.out
          have HBb : Hid (Below w.heap.size w (wr.alloc (.cells #[.int .i64 x.n, .string x.r] 27))) := hb.trans (HAb.out.mono hb.size)
          have yA : w.heap.size + 2 ≤ (wr.alloc (.cells #[.int .i64 x.n, .string x.r] 27)).heap.size := by simp; omega
          by_cases hgt : m.n < x.n
          · rw [if_pos hgt] at HN
            have HN2 : Hid (x = bestF q (l.take (k + 1))) := HN.symm
            clear HN ht HK ek hx0 r1 r0 hb
            go_wp2_with (refine wpList_store_row rfl 27 _ _ rfl (w.heap.size + 1) (hc x) rfl rfl 27 _ HR1.out (sizeH x) rfl (oneH x) ?_)
            go_roundw
            case rel => exact ⟨k + 1, x, by omega, by go_num, HN2, setRow_heap _ _ _ _ _ (0, 0) HR1.out, (setRow_other _ _ _ _ (by omega)).trans HR0.out, below_setRow HBb.out (by omega) _, by simpa using yA⟩
            case measure => simp [intOf]; omega
          · rw [if_neg hgt] at HN
            have HN2 : Hid (m = bestF q (l.take (k + 1))) := HN.symm
            clear HN ht HK ek hx0 r1 r0 hb
            go_wp2
            go_roundw
            case rel => exact ⟨k + 1, m, by omega, by go_num, HN2, HR1.out, HR0.out, HBb.out, yA⟩
            case measure => simp [intOf]; omega
        · have HF : Hid (m = M) := by
            have h := HK.out
            rw [List.take_of_length_le (by omega), HM.out] at h
            exact h
          have hm : m.r.size ≤ 1000000000000 := by rw [HK.out]; exact HY.out k
          clear HK HM
          have m1 : ∀ X, _ := fun X => own_impl X m hm
          go_wp2_with (refine wpList_load_row rfl 27 _ rfl (w.heap.size + 1) rfl 27 (hc m) (0, 0) _ r1 Try.underlying27 rfl (sizeH m) ?_)
          refine (m1 _).mono ?_
          rintro e w4 ⟨rfl, b4⟩
          have r4 := rowKeep r0 b4
          have B4 : Below w.heap.size w w4 := hb.trans (b4.mono hb.size)
          clear r1 r0 m1
          go_wp2_with (refine wpList_store_row rfl 27 _ _ rfl w.heap.size (hc m) rfl rfl 27 _ r4 (sizeH m) rfl (oneH m) ?_)
          exact bodyPost_ret (v := .agg (hc m)) (results_cell_row rfl _ _ w.heap.size 27 _ (0, 0) _ rfl (setRow_heap _ _ _ _ _ (0, 0) r4) Try.underlying27 rfl (sizeH m)) rfl ⟨by rw [← HF.out]; rfl, below_setRow B4 (Nat.le_refl _) _⟩

end Go.Proofs.Ytanidhhcedinoaa.He
