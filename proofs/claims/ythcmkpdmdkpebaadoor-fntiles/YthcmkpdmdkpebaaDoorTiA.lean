/- Chapter 9, the landed code: the texts of a tile; TileOf. -/
import Derived.Test.YthcmkpdmdkpebaaDoorTi9
import Derived.Test.YthcmkpdmdkpebaaDoorTi6
namespace Go.Proofs.YthcmkpdmdkpebaaDoor.Ti
open Go.RowKit Go.Proofs.YthcmkpdmdkpebaaDoor.Mem Go.Proofs.YthcmkpdmdkpebaaDoor.Laws Go.Proofs.YthcmkpdmdkpebaaDoor.Bytes Go.Proofs.YthcmkpdmdkpebaaDoor.Sha Go.Proofs.YthcmkpdmdkpebaaDoor.Tr
set_option linter.unusedVariables false
set_option linter.unusedSimpArgs false

theorem ownNil (w : World) (lo hi : Nat) (e : TypeId) : Own w lo hi e (.slice none 0 0) [] :=
  ⟨⟨rfl, .inl ⟨rfl, rfl⟩⟩, fun g hg => by simp [Value.ownBlock] at hg⟩
theorem nt_yes {t : List ByteArray} {k : Nat} {s : ByteArray} (h : t[k]? = some s) : nt t k = ⟨s, true⟩ := by unfold nt; rw [h]
theorem nt_no {t : List ByteArray} {k : Nat} (h : ¬ k < t.length) : nt t k = no0 := by unfold nt; rw [List.getElem?_eq_none (by omega)]
theorem index4 (w : World) (x0 x1 x2 x3 : No) (m : Nat) (hm : m < 4) (y : No) (hy : [x0, x1, x2, x3][m]? = some y) : (Instr.index 41 (.agg (t4 x0 x1 x2 x3)) (.int .i64 (m : Int))).run Tryd.prog w = .ok (.agg (c2 y)) w := by
  obtain ⟨i0, hi, hz0, hz1⟩ : ∃ i, Tryd.prog.info? 39 = some i ∧ i.zero = some (.agg #[.string ⟨#[]⟩, .bool false]) ∧ i.size = 2 := by
    have h := info39
    cases hh : Tryd.prog.info? 39 with
    | none => rw [hh] at h; simp at h
    | some i => rw [hh] at h; simp at h; exact ⟨i, rfl, h.1, h.2⟩
  have hag : (isAgg 39).run Tryd.prog w = .ok true w := by
    unfold isAgg
    rw [Sem.run_bind, run_underlying Tryd.underlying39 w]
    rfl
  have hso : (sizeOf 39).run Tryd.prog w = .ok 2 w := by simp [sizeOf, typeInfo, hi, hz1]
  have h1 : (0 : Int) ≤ (m : Int) ∧ (m : Int) < ((4 : Nat) : Int) := by omega
  unfold Instr.index
  simp only [asIntOf, Sem.run_bind, Sem.run_pure, Result.andThen_ok, run_underlying Tryd.underlying41 w]
  rw [if_pos h1]
  simp only [Sem.run_bind, hso, Result.andThen_ok, part, hag, Int.toNat_natCast]
  match m, hm, hy with
  | 0, _, hy => simp at hy; subst hy; simp [t4, c2, Sem.run_bind, hso]
  | 1, _, hy => simp at hy; subst hy; simp [t4, c2, Sem.run_bind, hso]
  | 2, _, hy => simp at hy; subst hy; simp [t4, c2, Sem.run_bind, hso]
  | 3, _, hy => simp at hy; subst hy; simp [t4, c2, Sem.run_bind, hso]
theorem indexT (w : World) (t : List ByteArray) (k : Nat) (hk : k < 4) (y : No) (hy : nt t k = y) : (Instr.index 41 (.agg (tc t)) (.int .i64 (k : Int))).run Tryd.prog w = .ok (.agg #[.string y.s, .bool y.p]) w := by
  refine index4 w _ _ _ _ k hk y ?_
  match k, hk, hy with
  | 0, _, hy => rw [← hy]; rfl
  | 1, _, hy => rw [← hy]; rfl
  | 2, _, hy => rw [← hy]; rfl
  | 3, _, hy => rw [← hy]; rfl

set_option maxRecDepth 1000000 in
set_option maxHeartbeats 2000000 in
theorem texts_impl9 (w : World) (t : List ByteArray) (h4 : t.length ≤ 4) :
    Calls Tryd.prog 23 #[.agg (tc t)] w fun e w' => ∃ v', e = .returned v' ∧ Own w' w.heap.size w'.heap.size 9 v' (ss t) ∧ Below w.heap.size w w' := by
  obtain ⟨i0, hi, hz0, hz1, hz2⟩ := info_parts info9t
  have HR : Hid ((w.alloc (.cells (tc t) 41)).heap[w.heap.size]? = some (.cells (tc t) 41 (0, 0))) := heap_alloc_new w _
  have HB : Hid (Below w.heap.size w (w.alloc (.cells (tc t) 41))) := (Below.refl _ _).alloc (Nat.le_refl _) _
  have hix : ∀ W k, k < 4 → ∀ y, nt t k = y → _ := fun W k hk y hy => indexT W t k hk y hy
  have HX : Hid _ := hix
  clear hix
  go_enter Tryd.func23, Tryd.ntmps23
  go_wp2_with (refine wpList_load_row rfl 41 _ rfl w.heap.size rfl 41 (tc t) (0, 0) _ HR.out Tryd.underlying41 rfl (sizeT _) ?_)
  go_loopw [3, 7] (fun v i wr => ∃ k : Nat, k ≤ 4 ∧ i = .int .i64 (k : Int) ∧ Hid (Own wr w.heap.size wr.heap.size 9 v (ss (t.take k))) ∧ Hid (Below w.heap.size w wr)) (fun _ i _ => 4 - (intOf i).toNat)
  case atStart => exact ⟨0, Nat.zero_le _, rfl, by show Own _ _ _ _ _ _; exact ownNil _ _ _ _, HB⟩
  case round =>
    obtain ⟨k, hk, rfl, O, B⟩ := hrel
    have hsz := B.out.size
    clear HR HB
    by_cases hlt : k < 4
    · have hX : ∀ y : No, ∃ X, Hid ((wr.alloc (.cells (c2 no0) 39)).setRow wr.heap.size (c2 y) = X) ∧ X.cell? ⟨wr.heap.size, 0, none⟩ = some (.string y.s) ∧ X.cell? ⟨wr.heap.size, 1, none⟩ = some (.bool y.p) ∧ Hid (Below w.heap.size w X) ∧ Hid (Own X w.heap.size X.heap.size 9 u3 (ss (t.take k))) ∧ wr.heap.size < X.heap.size := fun y => by
        have hr : ((wr.alloc (.cells (c2 no0) 39)).setRow wr.heap.size (c2 y)).heap[wr.heap.size]? = some (.cells (c2 y) 39 (0, 0)) := setRow_heap _ _ _ _ _ (0, 0) (heap_alloc_new wr _)
        refine ⟨_, rfl, ?_, ?_, ?_, ?_, ?_⟩
        · rw [cell_of_row _ _ _ _ _ _ hr]; rfl
        · rw [cell_of_row _ _ _ _ _ _ hr]; rfl
        · exact below_setRow (B.out.alloc hsz _) hsz _
        · show Own _ _ _ _ _ _
          have := (O.out.later ((Below.refl wr.heap.size wr).alloc (Nat.le_refl _) (.cells (c2 no0) 39)) (Nat.le_refl _)).setRow (g := wr.heap.size) (c2 y) (Or.inr (Nat.le_refl _))
          exact this.mono (Nat.le_refl _) (by simp)
        · simp
      by_cases hlt2 : k < t.length
      · obtain ⟨s, hs0⟩ : ∃ s, t[k]? = some s := ⟨t[k], by simp [hlt2]⟩
        have ix := fun W => HX.out W k hlt _ (nt_yes hs0)
        obtain ⟨X, HXW, x0, x1, XB, XO, xz⟩ := hX ⟨s, true⟩
        have HT : Hid (t.take (k + 1) = t.take k ++ [s]) := by show _ = _; rw [List.take_add_one, hs0]; rfl
        have XB2 := XB.out.size
        have o1 : ∀ o, Own (X.alloc o) w.heap.size (X.alloc o).heap.size 9 u3 (ss (t.take k)) := fun o => Own.alloc XO.out o
        have c2' : (ss (t.take k)).length + 1 ≤ maxLen := by rw [ss_len, List.length_take]; unfold maxLen; omega
        have c3 : ((ss (t.take k)).length + 1) * 16 ≤ 140737488355328 := by rw [ss_len, List.length_take]; omega
        have c4 : ∀ o, w.heap.size ≤ (X.alloc o).heap.size := fun o => by simp; omega
        have z0 : (0 : Int) ≤ (k : Int) := by omega
        have z1 : (k : Int) < 4 := by omega
        have hr0 : Hid ((wr.alloc (.cells (c2 no0) 39)).heap[wr.heap.size]? = some (.cells (c2 no0) 39 (0, 0))) := heap_alloc_new wr _
        clear hs0 hX XO O B
        go_wp2_with (first | (refine wpList_store_row rfl 39 _ _ rfl wr.heap.size (c2 ⟨s, true⟩) rfl rfl 39 (c2 no0) hr0.out (size2 _) rfl (one2 _) ?_; have HXW2 := HXW.out; unfold c2 no0 at HXW2; (try unfold c2); rw [HXW2]; clear HXW2) | (at_builtin; go_must (refine wpl_app _ rfl (.tmp 12) (.tmp 15) 24 rfl 9 i0 (.string ⟨#[]⟩) 16 Tryd.underlying24 hi hz0 hz1 hz2 rfl w.heap.size _ (ss (t.take k)) rfl (o1 _) _ rfl [.string s] (Sl.one _ _ _) (oneT _) c2' c3 (c4 _) ?_); intro v3 w3 ho3 hb3 _))
        have B3 : Hid (Below w.heap.size w w3) := (XB.out.alloc XB2 _).trans hb3
        have O3 : Hid (Own w3 w.heap.size w3.heap.size 9 v3 (ss (t.take (k + 1)))) := by show Own _ _ _ _ _ _; rw [HT.out, ss_app]; exact ho3
        clear o1 c2' c3 c4 ho3 hb3 HT
        go_roundw
        case rel => exact ⟨k + 1, by omega, by go_num, O3, B3⟩
        case measure => simp [intOf]; omega
      · have ix := fun W => HX.out W k hlt _ (nt_no hlt2)
        obtain ⟨X, HXW, x0, x1, XB, XO, xz⟩ := hX no0
        have HT : Hid (t.take (k + 1) = t.take k) := by show _ = _; rw [List.take_of_length_le (by omega), List.take_of_length_le (by omega)]
        have hr0 : Hid ((wr.alloc (.cells (c2 no0) 39)).heap[wr.heap.size]? = some (.cells (c2 no0) 39 (0, 0))) := heap_alloc_new wr _
        have z0 : (0 : Int) ≤ (k : Int) := by omega
        have z1 : (k : Int) < 4 := by omega
        clear hX O B
        go_wp2_with (refine wpList_store_row rfl 39 _ _ rfl wr.heap.size (c2 no0) rfl rfl 39 (c2 no0) hr0.out (size2 _) rfl (one2 _) ?_; have HXW2 := HXW.out; unfold c2 no0 at HXW2; (try unfold c2); (try unfold no0); rw [HXW2]; clear HXW2)
        go_roundw
        case rel => exact ⟨k + 1, by omega, by go_num, by show Own _ _ _ _ _ _; rw [HT.out]; exact XO.out, XB⟩
        case measure => simp [intOf]; omega
    · have HT : Hid (t.take k = t) := List.take_of_length_le (by omega)
      rw [HT.out] at O
      clear HT
      go_wp2
      go_ret
      exact ⟨_, rfl, O.out, B.out⟩

set_option maxRecDepth 1000000 in
set_option maxHeartbeats 2000000 in
theorem of_impl9 (w : World) (v : Value) (l : List ByteArray) (level i : Int) (hG : Glob w) (h : Sl w v (ss l)) (hl : l.length ≤ 1000000000000) (hz : ∀ s ∈ l, s.size ≤ 10000000000) :
    Calls Tryd.prog 9 #[v, .int .i64 level, .int .i64 i] w fun e w' => ∃ v', e = .returned v' ∧ Own w' w.heap.size w'.heap.size 9 v' (ss (tileOf l level i)) ∧ Below w.heap.size w w' := by
  have HS : Hid (Sl w v (ss l)) := h
  obtain ⟨ao, cap, rfl, hcap, _⟩ := h
  rw [ss_len] at *
  have HO : Hid (Own w w.heap.size w.heap.size 9 (.slice none 0 0) (ss [])) := ownNil _ _ _ _
  have HB : Hid (Below w.heap.size w w) := Below.refl _ _
  have q0 := count_impl w (l.length : Int) level
  have hT := tileCount_le (l.length : Int) level
  by_cases hi : i < 0
  · have HN : Hid (tileOf l level i = []) := tileOf_no (by omega)
    obtain ⟨L, hL⟩ : ∃ L, tileOf l level i = L := ⟨_, rfl⟩
    rw [hL] at HN ⊢
    clear hL hT q0
    go_enter Tryd.func9, Tryd.ntmps9
    go_wp2
    go_ret
    exact ⟨_, rfl, by rw [HN.out]; exact HO.out, HB.out⟩
  by_cases hin : (tileCount (l.length : Int) level : Int) ≤ i
  · have HN : Hid (tileOf l level i = []) := tileOf_no (by omega)
    obtain ⟨L, hL⟩ : ∃ L, tileOf l level i = L := ⟨_, rfl⟩
    rw [hL] at HN ⊢
    obtain ⟨T, hTT⟩ : ∃ T, tileCount (l.length : Int) level = T := ⟨_, rfl⟩
    rw [hTT] at q0 hT hin
    clear hL hTT
    go_enter Tryd.func9, Tryd.ntmps9
    go_wp2_with fail
    refine q0.mono ?_
    rintro e w0 ⟨rfl, rfl⟩
    go_wp2
    go_ret
    exact ⟨_, rfl, by rw [HN.out]; exact HO.out, HB.out⟩
  have hbig : (0 ≤ (l.length : Int) ∧ (l.length : Int) ≤ 200) ∧ 0 ≤ level ∧ level ≤ 3 := by
    refine Classical.byContradiction (fun hc => ?_)
    rw [tileCount_no hc] at hin
    omega
  obtain ⟨j, rfl⟩ : ∃ m : Nat, level = (m : Int) := ⟨level.toNat, by omega⟩
  obtain ⟨q, rfl⟩ : ∃ m : Nat, i = (m : Int) := ⟨i.toNat, by omega⟩
  have q2 := below_impl w j (by omega)
  have hS := span_le j (by omega)
  have HN : Hid (tileOf l (j : Int) (q : Int) = tl l (4 ^ j) 4 (4 * q)) := tileOf_yes (by omega)
  have q3 := at_impl w _ l (4 ^ j) q hG HS.out (by omega) hz hS.1 hS.2 (by omega)
  have ht4 : (tl l (4 ^ j) 4 (4 * q)).length ≤ 4 := by rw [tl_len l hS.1]; omega
  obtain ⟨L, hL⟩ : ∃ L, tl l (4 ^ j) 4 (4 * q) = L := ⟨_, rfl⟩
  rw [hL] at HN q3 ht4
  have q4 : ∀ W, _ := fun W => texts_impl9 W L ht4
  rw [HN.out]
  obtain ⟨S, hSS⟩ : ∃ S, 4 ^ j = S := ⟨_, rfl⟩
  rw [hSS] at q2 q3
  obtain ⟨T, hTT⟩ : ∃ T, tileCount (l.length : Int) (j : Int) = T := ⟨_, rfl⟩
  rw [hTT] at q0 hT hin
  have g0 : ¬ (T : Int) ≤ (q : Int) := hin
  clear hSS hTT hbig hL hS ht4 HN HO hz hin
  go_enter Tryd.func9, Tryd.ntmps9
  go_wp2_with fail
  refine q0.mono ?_
  rintro e w0 ⟨rfl, rfl⟩
  clear q0
  go_wp2_with fail
  refine q2.mono ?_
  rintro e w0 ⟨rfl, rfl⟩
  clear q2
  go_wp2_with fail
  refine q3.mono ?_
  rintro e w1 ⟨rfl, b1⟩
  have B1 : Below w.heap.size w w1 := b1
  clear q3 b1
  go_wp2_with fail
  refine (q4 w1).mono ?_
  rintro e w2 ⟨v2, rfl, o2, b2⟩
  have O2 : Own w2 w.heap.size w2.heap.size 9 v2 (ss L) := o2.mono B1.size (Nat.le_refl _)
  have B2 : Below w.heap.size w w2 := B1.trans (b2.mono B1.size)
  clear q4 o2 b2
  go_wp2
  go_ret
  exact ⟨_, rfl, O2, B2⟩

end Go.Proofs.YthcmkpdmdkpebaaDoor.Ti
