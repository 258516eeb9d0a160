/- Texts in one: EntG. -/
import Derived.Test.YtlhmemnaiobgkaaGreatDoorPq19
/- Chapter 5, draws: any entry. -/
namespace Go.Proofs.YtlhmemnaiobgkaaGreatDoor.Ent
open Go.RowKit Go.Proofs.YtlhmemnaiobgkaaGreatDoor.Mem Go.Proofs.YtlhmemnaiobgkaaGreatDoor.Laws Go.Proofs.YtlhmemnaiobgkaaGreatDoor.Bytes Go.Proofs.YtlhmemnaiobgkaaGreatDoor.Sha Go.Proofs.YtlhmemnaiobgkaaGreatDoor.Ver Go.Proofs.YtlhmemnaiobgkaaGreatDoor.Mod Go.Proofs.YtlhmemnaiobgkaaGreatDoor.Draw
set_option linter.unusedVariables false
set_option linter.unusedSimpArgs false

/-- a need of bounded size -/
def Bn (n : Nd) : Prop := n.path.size ≤ 60 ∧ n.pre.size ≤ 9
theorem Dn.bn {n : Nd} (h : Dn n) : Bn n := h.size

theorem on_keepB {n m : Nat} {w w' : World} {lo hi : Nat} {e : TypeId} {v : Value} {cs : List Value} (h : On n w lo hi e v m cs) (hk : ∀ q, v.ownBlock = some q → w'.heap[q]? = w.heap[q]?) : On n w' lo hi e v m cs := by
  obtain ⟨⟨h1, h2⟩, h3⟩ := h
  refine ⟨⟨h1, ?_⟩, h3⟩
  rcases h2 with h2 | ⟨g, cap, cur, rfl, hb, hg, r⟩
  · exact .inl h2
  · exact .inr ⟨g, cap, cur, rfl, hb, by rw [hk g rfl]; exact hg, r⟩
theorem step_appn {P : Program} (n : Nat) (hn0 : 0 < n) {w : World} {ops : Array Oper} {o : Oper} {a : Act} {K : Act → World → Prop} {Q : Exit → Act → World → Prop} {E : Prop}
    (hg : o.guard = none) (s x : Operand) (t : TypeId) (hop : o.op = Op.call { callee := Callee.builtin Builtin.append, args := #[s, x], argTypes := #[t, t] })
    (e : TypeId) (i : TypeInfo) (z : Value) (bytes : Nat) (ht : P.underlying t = some (.slice e)) (hi : P.info? e = some i) (hz : i.zero = some z) (hsize : i.size = n) (hby : i.bytes = bytes) (hzs : z.cells.size = n)
    (lo : Nat) (v : Value) (m : Nat) (cs : List Value) (hs : a.eval s = v) (hown : On n w lo w.heap.size e v m cs) (y : Value) (hx : a.eval x = y) (k : Nat) (news : List Value) (hsl : Sn n w y k news)
    (h1 : ∀ u ∈ news, u.oneCell' = true) (h63 : m + k ≤ maxLen) (hb : (m + k) * bytes ≤ 140737488355328) (hlo : lo ≤ w.heap.size)
    (hK : ∀ v' w', On n w' lo w'.heap.size e v' (m + k) (cs ++ news) → Below lo w w' → w.grownBy w' v.ownBlock → K (a.put o.dst v') w') : if Region.wanted o (yielded ops a.tmps) = true then Oper.wp P o a w K Q else E := by
  have hw : Region.wanted o (yielded ops a.tmps) = true := by simp [Region.wanted, hg]
  rw [if_pos hw]
  obtain ⟨hl, ao, cap, rfl, hc, hn, hr⟩ := hsl
  have hblk : ∀ w', w.grownBy w' v.ownBlock → Below lo w w' := fun w' hg => (Below.refl _ _).grown hg hlo (fun k hk => (hown.1.lt k hk).1)
  cases ao with
  | none =>
    have hcap := hn rfl
    have hk0 : k = 0 := by omega
    subst hk0
    have hnil : news = [] := List.eq_nil_of_length_eq_zero (by simpa using hl)
    subst hnil
    subst hcap
    have hrun := run_append_owned_none (P := P) (w := w) lo t o.type e i n ht hi v m cs hown.1
    unfold Oper.wp
    simp [execOp, hop, resolve, invoke, builtin, hs, hx, hrun, Result.andThen]
    exact hK v w (by simpa using hown) (Below.refl _ _) (World.grownBy.refl _ _)
  | some ad =>
    refine wp_append_own w s x t hop lo e i z n bytes ht hi hz hsize hby hzs hn0 v m cs hs hown.1 ad k cap news hx hl ?_ h1 h63 hb hlo ?_
    · intro j u hj
      have hlt : j < news.length := (List.getElem?_eq_some_iff.1 hj).1
      obtain ⟨b, off, he, hcell⟩ := hr (by
        rcases Nat.eq_zero_or_pos k with h0 | h0
        · subst h0; simp at hl; subst hl; simp at hlt
        · exact h0)
      obtain rfl := Option.some.inj he
      rw [Addr.add_lit, hcell j hlt, hj]
    · intro v' w' ho hgr _
      exact hK v' w' (On.of ho) (hblk w' hgr) hgr

theorem Mem.Apart.cellB {w w' : World} {g : Nat} {p : Addr} {x : Value} (h : Apart g (g + 1) w w') (hc : w.cell? p = some x) (hne : p.block ≠ g) : w'.cell? p = some x := (World.cell?_of_block (h.block _ (World.block_lt_of_cell? w _ hc) (by omega))).trans hc

set_option maxRecDepth 1000000 in
set_option maxHeartbeats 2000000 in
theorem any5_any (W0 w : World) (g : Nat) (vb : Value) (xs : List Int) (hs : Sl W0 vb (bs xs)) (hby : Byt xs) (hx : xs.length ≤ 140737488355328) (hB : Below W0.heap.size W0 w) (hg : W0.heap.size ≤ g) (hc : Cur w g vb xs.length) :
    Calls Tryz.prog 38 #[.pointer (some ⟨g, 0, none⟩)] w fun e w' => ∃ (n : Nd) (v : Value) (l : List Nd), e = .returned (.agg #[.string n.path, .int .i64 n.a, .int .i64 n.b, .int .i64 n.c, .string n.pre, v]) ∧ Bn n ∧ (∀ x ∈ l, Dn x) ∧ l.length ≤ 4 ∧ Od w' w.heap.size w'.heap.size v l ∧ Drawn W0 w g vb xs w' := by
  obtain ⟨i0, hi, hz0, hz1, hz2⟩ := info_parts infoN5
  have hgw := hc.lt
  obtain ⟨W1, HW1, HR1, HD1, HZ1⟩ : ∃ W1, Hid (w.alloc (.cells #[.string ⟨#[]⟩, .int .i64 0, .int .i64 0, .int .i64 0, .string ⟨#[]⟩, .slice none 0 0] 34) = W1) ∧ Hid (W1.heap[w.heap.size]? = some (.cells (ec nil5 (.slice none 0 0)) 34 (0, 0))) ∧ Hid (Drawn W0 w g vb xs W1) ∧ Hid (W1.heap.size = w.heap.size + 1) :=
    ⟨_, rfl, heap_alloc_new w _, (Drawn.refl hB hc).on hg hgw ((Below.refl _ _).alloc (Nat.le_refl _) _), by show _ = _; simp⟩
  have q1 := entry_any W0 W1 g vb xs hs hby hx HD1.out.below hg HD1.out.cur
  rw [← HW1.out] at q1
  go_enter Tryz.func38, Tryz.ntmps38
  go_wp2_with fail
  refine q1.mono ?_
  rw [HW1.out]
  rintro e w2 ⟨n, v, l, rfl, hdn, hsr, hl3, _, o2, d2⟩
  obtain ⟨ao, cap, rfl⟩ := o2.slice
  have hz1' := HZ1.out
  have hlt2 : w.heap.size < w2.heap.size := Nat.lt_of_lt_of_le (by omega) d2.apart.size
  obtain ⟨ge, hge⟩ : ∃ ge, ge = w2.heap.size := ⟨_, rfl⟩
  -- the entry lies in its own block; what it needs lies below it
  obtain ⟨W3, HW3, HO3, HR3, HE3, HD3, hz3⟩ : ∃ W3, Hid (w2.alloc (.cells #[.string n.path, .int .i64 n.a, .int .i64 n.b, .int .i64 n.c, .string n.pre, .slice ao l.length cap] 34) = W3) ∧ Hid (Od W3 (w.heap.size + 1) ge (.slice ao l.length cap) l) ∧ Hid (W3.heap[ge]? = some (.cells (ec n (.slice ao l.length cap)) 34 (0, 0))) ∧ Hid (W3.heap[w.heap.size]? = some (.cells (ec nil5 (.slice none 0 0)) 34 (0, 0))) ∧ Hid (Drawn W0 w g vb xs W3) ∧ Hid (W3.heap.size = ge + 1) := by
    refine ⟨_, rfl, ?_, ?_, rowKeep (rowApart HR1.out d2.apart (by omega)) ((Below.refl _ _).alloc (Nat.le_refl _) _), (HD1.out.and d2).on hg hgw ((Below.refl _ _).alloc (by omega) _), by show _ = _; rw [hge]; simp⟩
    · rw [hge, ← HZ1.out]
      exact On.later o2 ((Below.refl _ _).alloc (Nat.le_refl _) _) (Nat.le_refl _)
    · rw [hge]; exact heap_alloc_new w2 _
  have hg3 : g < w.heap.size + 1 := by omega
  have q2 := below_any W0 W3 g vb xs 10 (by omega) (by omega) hs hby hx HD3.out.below hg HD3.out.cur
  rw [← HW3.out] at q2
  have HGE : Hid (ge = w2.heap.size) := hge
  clear q1 HW1 HR1 HD1 d2 o2 hge
  go_wp2_with fail
  refine q2.mono ?_
  rw [HW3.out]
  rintro e w4 ⟨y, rfl, y0, y1, d4⟩
  have hgl : w.heap.size < ge := by rw [HGE.out]; exact hlt2
  have O4 : Hid (Od w4 (w.heap.size + 1) ge (.slice ao l.length cap) l) := Od.apart HO3.out d4.apart (by omega) (by have := hz3.out; omega)
  have R4 : Hid (w4.heap[ge]? = some (.cells (ec n (.slice ao l.length cap)) 34 (0, 0))) := rowApart HR3.out d4.apart (by omega)
  have E4 : Hid (w4.heap[w.heap.size]? = some (.cells (ec nil5 (.slice none 0 0)) 34 (0, 0))) := rowApart HE3.out d4.apart (by omega)
  have D4 : Hid (Drawn W0 w g vb xs w4) := HD3.out.and d4
  have z4 : ge < w4.heap.size := (Array.getElem?_eq_some_iff.1 R4.out).1
  rw [← HGE.out]
  clear q2 HW3 HO3 HR3 HE3 HD3 d4 hz3 HGE hlt2
  by_cases h0 : y = 0
  · have e0 : (y == 0) = true := by simpa using h0
    have q3 := anyP_any W0 w4 g vb xs hs hby hx D4.out.below hg D4.out.cur
    clear h0
    go_wp2_with fail
    refine q3.mono ?_
    rintro e w5 ⟨s, rfl, hsz, d5⟩
    have O5 := Od.apart O4.out d5.apart (by omega) (by omega)
    have R5 := rowApart R4.out d5.apart (by omega)
    have E5 := rowApart E4.out d5.apart (by omega)
    have D5 := D4.out.and d5
    have k0 : w5.cell? ⟨ge, 0, none⟩ = some (.string n.path) := row_cells R5 0
    have f0 : w5.frozen? ⟨ge, 0, none⟩ = false := frozen_of_row w5 _ 0 _ _ R5
    have HR : Hid ((w5.setCell ⟨ge, 0, none⟩ (.string s)).heap[ge]? = some (.cells (ec ⟨s, n.a, n.b, n.c, n.pre⟩ (.slice ao l.length cap)) 34 (0, 0))) := by
      show _ = _
      rw [heap_setCell_same w5 _ 0 _ _ _ R5]
      rfl
    have HE : Hid ((w5.setCell ⟨ge, 0, none⟩ (.string s)).heap[w.heap.size]? = some (.cells (ec nil5 (.slice none 0 0)) 34 (0, 0))) := (heap_setCell_other w5 ⟨ge, 0, none⟩ _ _ (by show w.heap.size ≠ ge; omega)).trans E5
    have HD : Hid (Drawn W0 w g vb xs (w5.setCell ⟨ge, 0, none⟩ (.string s))) := D5.on hg hgw ((Below.refl _ _).setCell (p := ⟨ge, 0, none⟩) (by show _ ≤ ge; omega) _)
    have HO : Hid (Od (w5.setCell ⟨ge, 0, none⟩ (.string s)) (w.heap.size + 1) ge (.slice ao l.length cap) l) := On.keep O5 fun q h1 h2 => heap_setCell_other w5 ⟨ge, 0, none⟩ q _ (by show q ≠ ge; omega)
    have hz5 : ge ≤ (w5.setCell ⟨ge, 0, none⟩ (.string s)).heap.size := by have := d5.apart.size; simp [World.setCell]; omega
    have HBn : Hid (Bn ⟨s, n.a, n.b, n.c, n.pre⟩) := ⟨hsz, hdn.size.2⟩
    clear q3 O5 R5 E5 D5 d5
    go_wp2_with (first | (refine wpList_load_row rfl 34 _ rfl ge rfl 34 (ec ⟨s, n.a, n.b, n.c, n.pre⟩ (.slice ao l.length cap)) (0, 0) _ HR.out Tryz.underlying34 rfl (sizeE _ _) ?_) | (refine wpList_store_row rfl 34 _ _ rfl w.heap.size (ec ⟨s, n.a, n.b, n.c, n.pre⟩ (.slice ao l.length cap)) rfl rfl 34 _ HE.out (sizeE _ _) rfl (oneE _ (one_slice _ _ _)) ?_))
    refine bodyPost_ret (v := .agg (ec ⟨s, n.a, n.b, n.c, n.pre⟩ (.slice ao l.length cap))) (results_cell_row rfl _ _ w.heap.size 34 _ (0, 0) _ rfl (setRow_heap _ _ _ _ _ (0, 0) HE.out) Tryz.underlying34 rfl (sizeE _ _)) rfl ⟨⟨s, n.a, n.b, n.c, n.pre⟩, (.slice ao l.length cap), l, rfl, HBn.out, hsr.1, by omega, ?_, (HD.out).on hg hgw (below_setRow (Below.refl _ _) (Nat.le_refl _) _)⟩
    exact (Od.keep HO.out fun q h1 h2 => setRow_other _ _ _ _ (by omega)).mono (by omega) (by simpa using hz5)
  have e0 : (y == 0) = false := by simpa using h0
  by_cases h1 : y = 1
  · have e1 : (y == 1) = true := by simpa using h1
    have q3 := any_agg W0 w4 g vb xs hs hby hx D4.out.below hg D4.out.cur
    clear h0 h1
    go_wp2_with fail
    refine q3.mono ?_
    rintro e w5 ⟨a, b, c, p, rfl, hav, d5⟩
    have O5 := Od.apart O4.out d5.apart (by omega) (by omega)
    have R5 := rowApart R4.out d5.apart (by omega)
    have E5 := rowApart E4.out d5.apart (by omega)
    have D5 := D4.out.and d5
    have th := there_row (o := 1) (n := 4) R5 (by simp [ec])
    obtain ⟨W6, HW6, HR, HE, HD, HO, hz5⟩ : ∃ W6, Hid (w5.setCells ge 1 (vc a b c p).toList = W6) ∧ Hid (W6.heap[ge]? = some (.cells (ec ⟨n.path, a, b, c, p⟩ (.slice ao l.length cap)) 34 (0, 0))) ∧ Hid (W6.heap[w.heap.size]? = some (.cells (ec nil5 (.slice none 0 0)) 34 (0, 0))) ∧ Hid (Drawn W0 w g vb xs W6) ∧ Hid (Od W6 (w.heap.size + 1) ge (.slice ao l.length cap) l) ∧ ge ≤ W6.heap.size :=
      ⟨_, rfl, heap_setCells _ _ 1 w5 [.string n.path, .int .i64 n.a, .int .i64 n.b, .int .i64 n.c, .string n.pre, .slice ao l.length cap] _ R5, (heap_setCells_other _ _ (by omega) _ 1 w5).trans E5, D5.on hg hgw (below_setCells (by omega) _ 1 w5 (Below.refl _ _)), On.keep O5 fun q h1 h2 => heap_setCells_other _ _ (by omega) _ 1 w5, by rw [size_setCells]; have := d5.apart.size; omega⟩
    have HBn : Hid (Bn ⟨n.path, a, b, c, p⟩) := ⟨hdn.size.1, hav.2.2.2⟩
    clear q3 O5 R5 E5 D5 d5
    go_wp2_with (first | (refine wpList_store_mid rfl 32 _ _ rfl ge 1 (vc a b c p) rfl rfl th (sizeV4 a b c p) (oneV a b c p) ?_; rw [HW6.out]) | (refine wpList_load_row rfl 34 _ rfl ge rfl 34 (ec ⟨n.path, a, b, c, p⟩ (.slice ao l.length cap)) (0, 0) _ HR.out Tryz.underlying34 rfl (sizeE _ _) ?_) | (refine wpList_store_row rfl 34 _ _ rfl w.heap.size (ec ⟨n.path, a, b, c, p⟩ (.slice ao l.length cap)) rfl rfl 34 _ HE.out (sizeE _ _) rfl (oneE _ (one_slice _ _ _)) ?_))
    refine bodyPost_ret (v := .agg (ec ⟨n.path, a, b, c, p⟩ (.slice ao l.length cap))) (results_cell_row rfl _ _ w.heap.size 34 _ (0, 0) _ rfl (setRow_heap _ _ _ _ _ (0, 0) HE.out) Tryz.underlying34 rfl (sizeE _ _)) rfl ⟨⟨n.path, a, b, c, p⟩, (.slice ao l.length cap), l, rfl, HBn.out, hsr.1, by omega, ?_, (HD.out).on hg hgw (below_setRow (Below.refl _ _) (Nat.le_refl _) _)⟩
    exact (Od.keep HO.out fun q h1 h2 => setRow_other _ _ _ _ (by omega)).mono (by omega) (by simpa using hz5)
  have e1 : (y == 1) = false := by simpa using h1
  by_cases h2 : y = 2
  · have e2 : (y == 2) = true := by simpa using h2
    have q3 : ∀ W, Drawn W0 w g vb xs W → _ := fun W h => need_any W0 W g vb xs hs hby hx h.below hg h.cur
    have k5 : w4.cell? ⟨ge, 5, none⟩ = some (.slice ao l.length cap) := row_cells R4.out 5
    clear h0 h1 h2
    go_wp2_with fail
    have D4d : Drawn W0 w g vb xs w4.drew := D4.out.on hg hgw ⟨rfl, rfl, rfl, Nat.le_refl _, fun _ _ => rfl⟩
    have hTrue : True := trivial
    refine wp_region_held_drew (S := fun _ => True) (by kernel_rfl) trivial (fun _ => ?_)
    have k5d : w4.drew.cell? ⟨ge, 5, none⟩ = some (.slice ao l.length cap) := k5
    (refine wpAnyH_take (i := 0) (v := ?v0x4) rfl (by kernel_rfl) (by kernel_rfl) (by kernel_rfl) (fun _ _ _ h => h) (Or.inl ⟨by rfl, ?hy0x4⟩) (by assumption) ?rest0x4; case hy0x4 => (intro w hSw; (try dsimp only at hSw); go_split_ands; go_simp; (try with_reducible rfl)))
    try simp only [Act.put, List.setIfInBounds_toArray, List.set_cons_zero, List.set_cons_succ, List.getElem_toArray, List.getElem_cons_zero, List.getElem_cons_succ]
    (refine wpAnyH_take (i := 2) (v := ?v2x5) rfl (by kernel_rfl) (by kernel_rfl) (by kernel_rfl) (fun _ _ _ h => h) (Or.inl ⟨by rfl, ?hy2x5⟩) (by assumption) ?rest2x5; case hy2x5 => (intro w hSw; (try dsimp only at hSw); go_split_ands; go_simp; (try with_reducible rfl)))
    try simp only [Act.put, List.setIfInBounds_toArray, List.set_cons_zero, List.set_cons_succ, List.getElem_toArray, List.getElem_cons_zero, List.getElem_cons_succ]
    refine wpAnyH_ready (rs := [1, 3]) (by kernel_rfl) (by simp) ?_
    refine AllReadyH.cons rfl (fun K hK => ?_) (AllReadyH.cons rfl (fun K hK => ?_) AllReadyH.nil)
    · go_simp
      refine hK.out _ _ trivial (fun _ => ?_)
      clear hK K
      try simp only [Act.put, List.setIfInBounds_toArray, List.set_cons_zero, List.set_cons_succ, List.getElem_toArray, List.getElem_cons_zero, List.getElem_cons_succ]
      refine wpAnyH_ready (rs := [3]) (by kernel_rfl) (by simp) ?_
      refine AllReadyH.cons rfl (fun K hK => ?_) AllReadyH.nil
      go_simp
      refine (q3 _ D4d).mono ?_
      rintro e w6 ⟨x, rfl, hdx, d6⟩
      refine hK.out _ _ trivial (fun _ => ?_)
      clear hK K
      try simp only [Act.put, List.setIfInBounds_toArray, List.set_cons_zero, List.set_cons_succ, List.getElem_toArray, List.getElem_cons_zero, List.getElem_cons_succ]
      have D6 : Drawn W0 w g vb xs w6 := D4d.and d6
      have O6 : Od w6 (w.heap.size + 1) ge (.slice ao l.length cap) l := Od.apart (w := w4.drew) O4.out d6.apart (by omega) (by show ge ≤ w4.heap.size; omega)
      have R6 : Hid (w6.heap[ge]? = some (.cells (ec n (.slice ao l.length cap)) 34 (0, 0))) := rowApart (w := w4.drew) R4.out d6.apart (by omega)
      have E6 : Hid (w6.heap[w.heap.size]? = some (.cells (ec nil5 (.slice none 0 0)) 34 (0, 0))) := rowApart (w := w4.drew) E4.out d6.apart (by omega)
      have z6 : ge < w6.heap.size := (Array.getElem?_eq_some_iff.1 R6.out).1
      have k56 : w6.cell? ⟨ge, 5, none⟩ = some (.slice ao l.length cap) := row_cells R6.out 5
      have HO6 : Hid (On 5 (w6.alloc (.cells #[.string x.path, .int .i64 x.a, .int .i64 x.b, .int .i64 x.c, .string x.pre] 38)) (w.heap.size + 1) (w6.alloc (.cells #[.string x.path, .int .i64 x.a, .int .i64 x.b, .int .i64 x.c, .string x.pre] 38)).heap.size 38 (.slice ao l.length cap) l.length (nds l)) := On.alloc (On.mono O6 (Nat.le_refl _) (Nat.le_of_lt z6)) _
      have HL6 : Hid (Sn 5 (w6.alloc (.cells #[.string x.path, .int .i64 x.a, .int .i64 x.b, .int .i64 x.c, .string x.pre] 38)) (.slice (some ⟨w6.heap.size, 0, none⟩) 1 1) 1 (nds [x])) := Sn.one 5 w6 #[.string x.path, .int .i64 x.a, .int .i64 x.b, .int .i64 x.c, .string x.pre] 38 rfl
      have HBA : Hid (Below w6.heap.size w6 (w6.alloc (.cells #[.string x.path, .int .i64 x.a, .int .i64 x.b, .int .i64 x.c, .string x.pre] 38))) := (Below.refl _ _).alloc (Nat.le_refl _) _
      have k5A : (w6.alloc (.cells #[.string x.path, .int .i64 x.a, .int .i64 x.b, .int .i64 x.c, .string x.pre] 38)).cell? ⟨ge, 5, none⟩ = some (.slice ao l.length cap) := Ver.keepCell k56 HBA.out
      have y2 : l.length + 1 ≤ maxLen := by unfold maxLen; omega
      have y3 : (l.length + 1) * 56 ≤ 140737488355328 := by omega
      have y4 : w.heap.size + 1 ≤ (w6.alloc (.cells #[.string x.path, .int .i64 x.a, .int .i64 x.b, .int .i64 x.c, .string x.pre] 38)).heap.size := by simp; omega
      have HDA : Hid (Drawn W0 w g vb xs w6) := D6
      have HOw : Hid (∀ q, (Value.slice ao l.length cap).ownBlock = some q → q < ge) := O6.2
      clear D6 O6 d6
      refine wpAnyH_ready (rs := [4]) (by kernel_rfl) (by simp) ?_
      refine AllReadyH.cons rfl (fun K hK => ?_) AllReadyH.nil
      go_simp
      refine hK.out _ _ trivial (fun _ => ?_)
      clear hK K
      try simp only [Act.put, List.setIfInBounds_toArray, List.set_cons_zero, List.set_cons_succ, List.getElem_toArray, List.getElem_cons_zero, List.getElem_cons_succ]
      refine wpAnyH_ready (rs := [5]) (by kernel_rfl) (by simp) ?_
      refine AllReadyH.cons rfl (fun K hK => ?_) AllReadyH.nil
      refine step_appn 5 (by omega) (by rfl) (.tmp 21) (.tmp 24) 25 (by rfl) 38 i0 (.agg #[.string ⟨#[]⟩, .int .i64 0, .int .i64 0, .int .i64 0, .string ⟨#[]⟩]) 56 Tryz.underlying25 hi hz0 hz1 hz2 rfl (w.heap.size + 1) (.slice ao l.length cap) l.length (nds l) (by rfl) HO6.out (.slice (some ⟨w6.heap.size, 0, none⟩) 1 1) (by rfl) 1 (nds [x]) HL6.out (nds_one _) y2 y3 y4 ?_
      intro v9 w9 ho9 hb9 hg9
      obtain ⟨a9, cp9, rfl⟩ := on_slice5 ho9
      have R9 : w9.heap[ge]? = some (.cells (ec n (.slice ao l.length cap)) 34 (0, 0)) := (hg9.block ge (Nat.lt_of_lt_of_le z6 HBA.out.size) (fun e => by have := HOw.out ge e.symm; omega)).trans (rowKeep R6.out HBA.out)
      have E9 : w9.heap[w.heap.size]? = some (.cells (ec nil5 (.slice none 0 0)) 34 (0, 0)) := (hb9.block _ (by omega)).trans (rowKeep E6.out HBA.out)
      have D9 : Drawn W0 w g vb xs w9 := (HDA.out.on hg hgw (HBA.out.mono (by omega))).on hg hgw (hb9.mono (by omega))
      have k9 : w9.cell? ⟨ge, 5, none⟩ = some (.slice ao l.length cap) := row_cells R9 5
      have f9 : w9.frozen? ⟨ge, 5, none⟩ = false := frozen_of_row w9 _ 5 _ _ R9
      have HR9 : Hid _ := R9
      have HE9 : Hid _ := E9
      have HD9 : Hid (Drawn W0 w g vb xs w9) := D9
      have HO9 : Hid (On 5 w9 (w.heap.size + 1) w9.heap.size 38 (.slice a9 (l.length + 1) cp9) (l.length + 1) (nds l ++ nds [x])) := ho9
      have z9 : ge < w9.heap.size := (Array.getElem?_eq_some_iff.1 R9).1
      have HOb : Hid (∀ q, (Value.slice a9 (l.length + 1) cp9).ownBlock = some q → q ≠ ge) := by
        intro q hq he
        rcases ho9.1.2 with ⟨h1, _⟩ | ⟨g', cap', cur, h1, _, h2, _⟩
        · rw [h1] at hq; simp [Value.ownBlock] at hq
        · rw [h1] at hq
          simp [Value.ownBlock] at hq
          subst hq
          rw [he, R9] at h2
          simp at h2
      clear R9 E9 D9 ho9 hb9 hg9
      refine hK.out _ _ trivial (fun _ => ?_)
      clear hK K
      try simp only [Act.put, List.setIfInBounds_toArray, List.set_cons_zero, List.set_cons_succ, List.getElem_toArray, List.getElem_cons_zero, List.getElem_cons_succ]
      (refine wpAnyH_take (i := 6) (v := ?v6x1) rfl (by kernel_rfl) (by kernel_rfl) (by kernel_rfl) (fun _ _ _ h => h) (Or.inl ⟨by rfl, ?hy6x1⟩) (by assumption) ?rest6x1; case hy6x1 => (intro w hSw; (try dsimp only at hSw); go_split_ands; go_simp; (try with_reducible rfl)))
      try simp only [Act.put, List.setIfInBounds_toArray, List.set_cons_zero, List.set_cons_succ, List.getElem_toArray, List.getElem_cons_zero, List.getElem_cons_succ]
      refine wpAnyH_ready (rs := [7]) (by kernel_rfl) (by simp) ?_
      refine AllReadyH.cons rfl (fun K hK => ?_) AllReadyH.nil
      go_simp
      refine hK.out _ _ trivial (fun _ => ?_)
      clear hK K
      try simp only [Act.put, List.setIfInBounds_toArray, List.set_cons_zero, List.set_cons_succ, List.getElem_toArray, List.getElem_cons_zero, List.getElem_cons_succ]
      refine wpAnyH_done (by kernel_rfl) ?_ _
      have HR : Hid ((w9.setCell ⟨ge, 5, none⟩ (.slice a9 (l.length + 1) cp9)).heap[ge]? = some (.cells (ec n (.slice a9 (l.length + 1) cp9)) 34 (0, 0))) := by
        show _ = _
        rw [heap_setCell_same w9 _ 5 _ _ _ HR9.out]
        rfl
      have HE : Hid ((w9.setCell ⟨ge, 5, none⟩ (.slice a9 (l.length + 1) cp9)).heap[w.heap.size]? = some (.cells (ec nil5 (.slice none 0 0)) 34 (0, 0))) := (heap_setCell_other w9 ⟨ge, 5, none⟩ _ _ (by show w.heap.size ≠ ge; omega)).trans HE9.out
      have HD : Hid (Drawn W0 w g vb xs (w9.setCell ⟨ge, 5, none⟩ (.slice a9 (l.length + 1) cp9))) := HD9.out.on hg hgw ((Below.refl _ _).setCell (p := ⟨ge, 5, none⟩) (by show _ ≤ ge; omega) _)
      have HO : Hid (Od (w9.setCell ⟨ge, 5, none⟩ (.slice a9 (l.length + 1) cp9)) (w.heap.size + 1) (w9.setCell ⟨ge, 5, none⟩ (.slice a9 (l.length + 1) cp9)).heap.size (.slice a9 (l.length + 1) cp9) (l ++ [x])) := by
        show On _ _ _ _ _ _ _ _
        rw [nds_app, List.length_append]
        exact On.mono (on_keepB HO9.out fun q hq => heap_setCell_other w9 ⟨ge, 5, none⟩ q _ (HOb.out q hq)) (Nat.le_refl _) (by simp [World.setCell])
      have HBn : Hid (Bn n) := hdn.bn
      have hmem : ∀ y ∈ l ++ [x], Dn y := by
        intro y hy
        rcases List.mem_append.1 hy with h | h
        · exact hsr.1 y h
        · simp at h; subst h; exact hdx
      have hzz : w.heap.size + 1 ≤ (w9.setCell ⟨ge, 5, none⟩ (.slice a9 (l.length + 1) cp9)).heap.size := by simp [World.setCell]; omega
      clear k9 f9 k5A k56 k5d k5
      go_wp2_with (first | (refine wpList_load_row rfl 34 _ rfl ge rfl 34 (ec n (.slice a9 (l.length + 1) cp9)) (0, 0) _ HR.out Tryz.underlying34 rfl (sizeE _ _) ?_) | (refine wpList_store_row rfl 34 _ _ rfl w.heap.size (ec n (.slice a9 (l.length + 1) cp9)) rfl rfl 34 _ HE.out (sizeE _ _) rfl (oneE _ (one_slice _ _ _)) ?_))
      refine bodyPost_ret (v := .agg (ec n (.slice a9 (l.length + 1) cp9))) (results_cell_row rfl _ _ w.heap.size 34 _ (0, 0) _ rfl (setRow_heap _ _ _ _ _ (0, 0) HE.out) Tryz.underlying34 rfl (sizeE _ _)) rfl ⟨n, (.slice a9 (l.length + 1) cp9), l ++ [x], rfl, HBn.out, hmem, by simp; omega, ?_, (HD.out).on hg hgw (below_setRow (Below.refl _ _) (Nat.le_refl _) _)⟩
      exact (Od.keep HO.out fun q h1 h2 => setRow_other _ _ _ _ (by omega)).mono (by omega) (by simp)
    · go_simp
      refine (q3 _ D4d).mono ?_
      rintro e w6 ⟨x, rfl, hdx, d6⟩
      refine hK.out _ _ trivial (fun _ => ?_)
      clear hK K
      try simp only [Act.put, List.setIfInBounds_toArray, List.set_cons_zero, List.set_cons_succ, List.getElem_toArray, List.getElem_cons_zero, List.getElem_cons_succ]
      have D6 : Drawn W0 w g vb xs w6 := D4d.and d6
      have O6 : Od w6 (w.heap.size + 1) ge (.slice ao l.length cap) l := Od.apart (w := w4.drew) O4.out d6.apart (by omega) (by show ge ≤ w4.heap.size; omega)
      have R6 : Hid (w6.heap[ge]? = some (.cells (ec n (.slice ao l.length cap)) 34 (0, 0))) := rowApart (w := w4.drew) R4.out d6.apart (by omega)
      have E6 : Hid (w6.heap[w.heap.size]? = some (.cells (ec nil5 (.slice none 0 0)) 34 (0, 0))) := rowApart (w := w4.drew) E4.out d6.apart (by omega)
      have z6 : ge < w6.heap.size := (Array.getElem?_eq_some_iff.1 R6.out).1
      have k56 : w6.cell? ⟨ge, 5, none⟩ = some (.slice ao l.length cap) := row_cells R6.out 5
      have HO6 : Hid (On 5 (w6.alloc (.cells #[.string x.path, .int .i64 x.a, .int .i64 x.b, .int .i64 x.c, .string x.pre] 38)) (w.heap.size + 1) (w6.alloc (.cells #[.string x.path, .int .i64 x.a, .int .i64 x.b, .int .i64 x.c, .string x.pre] 38)).heap.size 38 (.slice ao l.length cap) l.length (nds l)) := On.alloc (On.mono O6 (Nat.le_refl _) (Nat.le_of_lt z6)) _
      have HL6 : Hid (Sn 5 (w6.alloc (.cells #[.string x.path, .int .i64 x.a, .int .i64 x.b, .int .i64 x.c, .string x.pre] 38)) (.slice (some ⟨w6.heap.size, 0, none⟩) 1 1) 1 (nds [x])) := Sn.one 5 w6 #[.string x.path, .int .i64 x.a, .int .i64 x.b, .int .i64 x.c, .string x.pre] 38 rfl
      have HBA : Hid (Below w6.heap.size w6 (w6.alloc (.cells #[.string x.path, .int .i64 x.a, .int .i64 x.b, .int .i64 x.c, .string x.pre] 38))) := (Below.refl _ _).alloc (Nat.le_refl _) _
      have k5A : (w6.alloc (.cells #[.string x.path, .int .i64 x.a, .int .i64 x.b, .int .i64 x.c, .string x.pre] 38)).cell? ⟨ge, 5, none⟩ = some (.slice ao l.length cap) := Ver.keepCell k56 HBA.out
      have y2 : l.length + 1 ≤ maxLen := by unfold maxLen; omega
      have y3 : (l.length + 1) * 56 ≤ 140737488355328 := by omega
      have y4 : w.heap.size + 1 ≤ (w6.alloc (.cells #[.string x.path, .int .i64 x.a, .int .i64 x.b, .int .i64 x.c, .string x.pre] 38)).heap.size := by simp; omega
      have HDA : Hid (Drawn W0 w g vb xs w6) := D6
      have HOw : Hid (∀ q, (Value.slice ao l.length cap).ownBlock = some q → q < ge) := O6.2
      clear D6 O6 d6
      refine wpAnyH_ready (rs := [1, 4]) (by kernel_rfl) (by simp) ?_
      refine AllReadyH.cons rfl (fun K hK => ?_) (AllReadyH.cons rfl (fun K hK => ?_) AllReadyH.nil)
      · go_simp
        refine hK.out _ _ trivial (fun _ => ?_)
        clear hK K
        try simp only [Act.put, List.setIfInBounds_toArray, List.set_cons_zero, List.set_cons_succ, List.getElem_toArray, List.getElem_cons_zero, List.getElem_cons_succ]
        refine wpAnyH_ready (rs := [4]) (by kernel_rfl) (by simp) ?_
        refine AllReadyH.cons rfl (fun K hK => ?_) AllReadyH.nil
        go_simp
        refine hK.out _ _ trivial (fun _ => ?_)
        clear hK K
        try simp only [Act.put, List.setIfInBounds_toArray, List.set_cons_zero, List.set_cons_succ, List.getElem_toArray, List.getElem_cons_zero, List.getElem_cons_succ]
        refine wpAnyH_ready (rs := [5]) (by kernel_rfl) (by simp) ?_
        refine AllReadyH.cons rfl (fun K hK => ?_) AllReadyH.nil
        refine step_appn 5 (by omega) (by rfl) (.tmp 21) (.tmp 24) 25 (by rfl) 38 i0 (.agg #[.string ⟨#[]⟩, .int .i64 0, .int .i64 0, .int .i64 0, .string ⟨#[]⟩]) 56 Tryz.underlying25 hi hz0 hz1 hz2 rfl (w.heap.size + 1) (.slice ao l.length cap) l.length (nds l) (by rfl) HO6.out (.slice (some ⟨w6.heap.size, 0, none⟩) 1 1) (by rfl) 1 (nds [x]) HL6.out (nds_one _) y2 y3 y4 ?_
        intro v9 w9 ho9 hb9 hg9
        obtain ⟨a9, cp9, rfl⟩ := on_slice5 ho9
        have R9 : w9.heap[ge]? = some (.cells (ec n (.slice ao l.length cap)) 34 (0, 0)) := (hg9.block ge (Nat.lt_of_lt_of_le z6 HBA.out.size) (fun e => by have := HOw.out ge e.symm; omega)).trans (rowKeep R6.out HBA.out)
        have E9 : w9.heap[w.heap.size]? = some (.cells (ec nil5 (.slice none 0 0)) 34 (0, 0)) := (hb9.block _ (by omega)).trans (rowKeep E6.out HBA.out)
        have D9 : Drawn W0 w g vb xs w9 := (HDA.out.on hg hgw (HBA.out.mono (by omega))).on hg hgw (hb9.mono (by omega))
        have k9 : w9.cell? ⟨ge, 5, none⟩ = some (.slice ao l.length cap) := row_cells R9 5
        have f9 : w9.frozen? ⟨ge, 5, none⟩ = false := frozen_of_row w9 _ 5 _ _ R9
        have HR9 : Hid _ := R9
        have HE9 : Hid _ := E9
        have HD9 : Hid (Drawn W0 w g vb xs w9) := D9
        have HO9 : Hid (On 5 w9 (w.heap.size + 1) w9.heap.size 38 (.slice a9 (l.length + 1) cp9) (l.length + 1) (nds l ++ nds [x])) := ho9
        have z9 : ge < w9.heap.size := (Array.getElem?_eq_some_iff.1 R9).1
        have HOb : Hid (∀ q, (Value.slice a9 (l.length + 1) cp9).ownBlock = some q → q ≠ ge) := by
          intro q hq he
          rcases ho9.1.2 with ⟨h1, _⟩ | ⟨g', cap', cur, h1, _, h2, _⟩
          · rw [h1] at hq; simp [Value.ownBlock] at hq
          · rw [h1] at hq
            simp [Value.ownBlock] at hq
            subst hq
            rw [he, R9] at h2
            simp at h2
        clear R9 E9 D9 ho9 hb9 hg9
        refine hK.out _ _ trivial (fun _ => ?_)
        clear hK K
        try simp only [Act.put, List.setIfInBounds_toArray, List.set_cons_zero, List.set_cons_succ, List.getElem_toArray, List.getElem_cons_zero, List.getElem_cons_succ]
        (refine wpAnyH_take (i := 6) (v := ?v6x2) rfl (by kernel_rfl) (by kernel_rfl) (by kernel_rfl) (fun _ _ _ h => h) (Or.inl ⟨by rfl, ?hy6x2⟩) (by assumption) ?rest6x2; case hy6x2 => (intro w hSw; (try dsimp only at hSw); go_split_ands; go_simp; (try with_reducible rfl)))
        try simp only [Act.put, List.setIfInBounds_toArray, List.set_cons_zero, List.set_cons_succ, List.getElem_toArray, List.getElem_cons_zero, List.getElem_cons_succ]
        refine wpAnyH_ready (rs := [7]) (by kernel_rfl) (by simp) ?_
        refine AllReadyH.cons rfl (fun K hK => ?_) AllReadyH.nil
        go_simp
        refine hK.out _ _ trivial (fun _ => ?_)
        clear hK K
        try simp only [Act.put, List.setIfInBounds_toArray, List.set_cons_zero, List.set_cons_succ, List.getElem_toArray, List.getElem_cons_zero, List.getElem_cons_succ]
        refine wpAnyH_done (by kernel_rfl) ?_ _
        have HR : Hid ((w9.setCell ⟨ge, 5, none⟩ (.slice a9 (l.length + 1) cp9)).heap[ge]? = some (.cells (ec n (.slice a9 (l.length + 1) cp9)) 34 (0, 0))) := by
          show _ = _
          rw [heap_setCell_same w9 _ 5 _ _ _ HR9.out]
          rfl
        have HE : Hid ((w9.setCell ⟨ge, 5, none⟩ (.slice a9 (l.length + 1) cp9)).heap[w.heap.size]? = some (.cells (ec nil5 (.slice none 0 0)) 34 (0, 0))) := (heap_setCell_other w9 ⟨ge, 5, none⟩ _ _ (by show w.heap.size ≠ ge; omega)).trans HE9.out
        have HD : Hid (Drawn W0 w g vb xs (w9.setCell ⟨ge, 5, none⟩ (.slice a9 (l.length + 1) cp9))) := HD9.out.on hg hgw ((Below.refl _ _).setCell (p := ⟨ge, 5, none⟩) (by show _ ≤ ge; omega) _)
        have HO : Hid (Od (w9.setCell ⟨ge, 5, none⟩ (.slice a9 (l.length + 1) cp9)) (w.heap.size + 1) (w9.setCell ⟨ge, 5, none⟩ (.slice a9 (l.length + 1) cp9)).heap.size (.slice a9 (l.length + 1) cp9) (l ++ [x])) := by
          show On _ _ _ _ _ _ _ _
          rw [nds_app, List.length_append]
          exact On.mono (on_keepB HO9.out fun q hq => heap_setCell_other w9 ⟨ge, 5, none⟩ q _ (HOb.out q hq)) (Nat.le_refl _) (by simp [World.setCell])
        have HBn : Hid (Bn n) := hdn.bn
        have hmem : ∀ y ∈ l ++ [x], Dn y := by
          intro y hy
          rcases List.mem_append.1 hy with h | h
          · exact hsr.1 y h
          · simp at h; subst h; exact hdx
        have hzz : w.heap.size + 1 ≤ (w9.setCell ⟨ge, 5, none⟩ (.slice a9 (l.length + 1) cp9)).heap.size := by simp [World.setCell]; omega
        clear k9 f9 k5A k56 k5d k5
        go_wp2_with (first | (refine wpList_load_row rfl 34 _ rfl ge rfl 34 (ec n (.slice a9 (l.length + 1) cp9)) (0, 0) _ HR.out Tryz.underlying34 rfl (sizeE _ _) ?_) | (refine wpList_store_row rfl 34 _ _ rfl w.heap.size (ec n (.slice a9 (l.length + 1) cp9)) rfl rfl 34 _ HE.out (sizeE _ _) rfl (oneE _ (one_slice _ _ _)) ?_))
        refine bodyPost_ret (v := .agg (ec n (.slice a9 (l.length + 1) cp9))) (results_cell_row rfl _ _ w.heap.size 34 _ (0, 0) _ rfl (setRow_heap _ _ _ _ _ (0, 0) HE.out) Tryz.underlying34 rfl (sizeE _ _)) rfl ⟨n, (.slice a9 (l.length + 1) cp9), l ++ [x], rfl, HBn.out, hmem, by simp; omega, ?_, (HD.out).on hg hgw (below_setRow (Below.refl _ _) (Nat.le_refl _) _)⟩
        exact (Od.keep HO.out fun q h1 h2 => setRow_other _ _ _ _ (by omega)).mono (by omega) (by simp)
      · go_simp
        refine hK.out _ _ trivial (fun _ => ?_)
        clear hK K
        try simp only [Act.put, List.setIfInBounds_toArray, List.set_cons_zero, List.set_cons_succ, List.getElem_toArray, List.getElem_cons_zero, List.getElem_cons_succ]
        refine wpAnyH_ready (rs := [1]) (by kernel_rfl) (by simp) ?_
        refine AllReadyH.cons rfl (fun K hK => ?_) AllReadyH.nil
        go_simp
        refine hK.out _ _ trivial (fun _ => ?_)
        clear hK K
        try simp only [Act.put, List.setIfInBounds_toArray, List.set_cons_zero, List.set_cons_succ, List.getElem_toArray, List.getElem_cons_zero, List.getElem_cons_succ]
        refine wpAnyH_ready (rs := [5]) (by kernel_rfl) (by simp) ?_
        refine AllReadyH.cons rfl (fun K hK => ?_) AllReadyH.nil
        refine step_appn 5 (by omega) (by rfl) (.tmp 21) (.tmp 24) 25 (by rfl) 38 i0 (.agg #[.string ⟨#[]⟩, .int .i64 0, .int .i64 0, .int .i64 0, .string ⟨#[]⟩]) 56 Tryz.underlying25 hi hz0 hz1 hz2 rfl (w.heap.size + 1) (.slice ao l.length cap) l.length (nds l) (by rfl) HO6.out (.slice (some ⟨w6.heap.size, 0, none⟩) 1 1) (by rfl) 1 (nds [x]) HL6.out (nds_one _) y2 y3 y4 ?_
        intro v9 w9 ho9 hb9 hg9
        obtain ⟨a9, cp9, rfl⟩ := on_slice5 ho9
        have R9 : w9.heap[ge]? = some (.cells (ec n (.slice ao l.length cap)) 34 (0, 0)) := (hg9.block ge (Nat.lt_of_lt_of_le z6 HBA.out.size) (fun e => by have := HOw.out ge e.symm; omega)).trans (rowKeep R6.out HBA.out)
        have E9 : w9.heap[w.heap.size]? = some (.cells (ec nil5 (.slice none 0 0)) 34 (0, 0)) := (hb9.block _ (by omega)).trans (rowKeep E6.out HBA.out)
        have D9 : Drawn W0 w g vb xs w9 := (HDA.out.on hg hgw (HBA.out.mono (by omega))).on hg hgw (hb9.mono (by omega))
        have k9 : w9.cell? ⟨ge, 5, none⟩ = some (.slice ao l.length cap) := row_cells R9 5
        have f9 : w9.frozen? ⟨ge, 5, none⟩ = false := frozen_of_row w9 _ 5 _ _ R9
        have HR9 : Hid _ := R9
        have HE9 : Hid _ := E9
        have HD9 : Hid (Drawn W0 w g vb xs w9) := D9
        have HO9 : Hid (On 5 w9 (w.heap.size + 1) w9.heap.size 38 (.slice a9 (l.length + 1) cp9) (l.length + 1) (nds l ++ nds [x])) := ho9
        have z9 : ge < w9.heap.size := (Array.getElem?_eq_some_iff.1 R9).1
        have HOb : Hid (∀ q, (Value.slice a9 (l.length + 1) cp9).ownBlock = some q → q ≠ ge) := by
          intro q hq he
          rcases ho9.1.2 with ⟨h1, _⟩ | ⟨g', cap', cur, h1, _, h2, _⟩
          · rw [h1] at hq; simp [Value.ownBlock] at hq
          · rw [h1] at hq
            simp [Value.ownBlock] at hq
            subst hq
            rw [he, R9] at h2
            simp at h2
        clear R9 E9 D9 ho9 hb9 hg9
        refine hK.out _ _ trivial (fun _ => ?_)
        clear hK K
        try simp only [Act.put, List.setIfInBounds_toArray, List.set_cons_zero, List.set_cons_succ, List.getElem_toArray, List.getElem_cons_zero, List.getElem_cons_succ]
        (refine wpAnyH_take (i := 6) (v := ?v6x3) rfl (by kernel_rfl) (by kernel_rfl) (by kernel_rfl) (fun _ _ _ h => h) (Or.inl ⟨by rfl, ?hy6x3⟩) (by assumption) ?rest6x3; case hy6x3 => (intro w hSw; (try dsimp only at hSw); go_split_ands; go_simp; (try with_reducible rfl)))
        try simp only [Act.put, List.setIfInBounds_toArray, List.set_cons_zero, List.set_cons_succ, List.getElem_toArray, List.getElem_cons_zero, List.getElem_cons_succ]
        refine wpAnyH_ready (rs := [7]) (by kernel_rfl) (by simp) ?_
        refine AllReadyH.cons rfl (fun K hK => ?_) AllReadyH.nil
        go_simp
        refine hK.out _ _ trivial (fun _ => ?_)
        clear hK K
        try simp only [Act.put, List.setIfInBounds_toArray, List.set_cons_zero, List.set_cons_succ, List.getElem_toArray, List.getElem_cons_zero, List.getElem_cons_succ]
        refine wpAnyH_done (by kernel_rfl) ?_ _
        have HR : Hid ((w9.setCell ⟨ge, 5, none⟩ (.slice a9 (l.length + 1) cp9)).heap[ge]? = some (.cells (ec n (.slice a9 (l.length + 1) cp9)) 34 (0, 0))) := by
          show _ = _
          rw [heap_setCell_same w9 _ 5 _ _ _ HR9.out]
          rfl
        have HE : Hid ((w9.setCell ⟨ge, 5, none⟩ (.slice a9 (l.length + 1) cp9)).heap[w.heap.size]? = some (.cells (ec nil5 (.slice none 0 0)) 34 (0, 0))) := (heap_setCell_other w9 ⟨ge, 5, none⟩ _ _ (by show w.heap.size ≠ ge; omega)).trans HE9.out
        have HD : Hid (Drawn W0 w g vb xs (w9.setCell ⟨ge, 5, none⟩ (.slice a9 (l.length + 1) cp9))) := HD9.out.on hg hgw ((Below.refl _ _).setCell (p := ⟨ge, 5, none⟩) (by show _ ≤ ge; omega) _)
        have HO : Hid (Od (w9.setCell ⟨ge, 5, none⟩ (.slice a9 (l.length + 1) cp9)) (w.heap.size + 1) (w9.setCell ⟨ge, 5, none⟩ (.slice a9 (l.length + 1) cp9)).heap.size (.slice a9 (l.length + 1) cp9) (l ++ [x])) := by
          show On _ _ _ _ _ _ _ _
          rw [nds_app, List.length_append]
          exact On.mono (on_keepB HO9.out fun q hq => heap_setCell_other w9 ⟨ge, 5, none⟩ q _ (HOb.out q hq)) (Nat.le_refl _) (by simp [World.setCell])
        have HBn : Hid (Bn n) := hdn.bn
        have hmem : ∀ y ∈ l ++ [x], Dn y := by
          intro y hy
          rcases List.mem_append.1 hy with h | h
          · exact hsr.1 y h
          · simp at h; subst h; exact hdx
        have hzz : w.heap.size + 1 ≤ (w9.setCell ⟨ge, 5, none⟩ (.slice a9 (l.length + 1) cp9)).heap.size := by simp [World.setCell]; omega
        clear k9 f9 k5A k56 k5d k5
        go_wp2_with (first | (refine wpList_load_row rfl 34 _ rfl ge rfl 34 (ec n (.slice a9 (l.length + 1) cp9)) (0, 0) _ HR.out Tryz.underlying34 rfl (sizeE _ _) ?_) | (refine wpList_store_row rfl 34 _ _ rfl w.heap.size (ec n (.slice a9 (l.length + 1) cp9)) rfl rfl 34 _ HE.out (sizeE _ _) rfl (oneE _ (one_slice _ _ _)) ?_))
        refine bodyPost_ret (v := .agg (ec n (.slice a9 (l.length + 1) cp9))) (results_cell_row rfl _ _ w.heap.size 34 _ (0, 0) _ rfl (setRow_heap _ _ _ _ _ (0, 0) HE.out) Tryz.underlying34 rfl (sizeE _ _)) rfl ⟨n, (.slice a9 (l.length + 1) cp9), l ++ [x], rfl, HBn.out, hmem, by simp; omega, ?_, (HD.out).on hg hgw (below_setRow (Below.refl _ _) (Nat.le_refl _) _)⟩
        exact (Od.keep HO.out fun q h1 h2 => setRow_other _ _ _ _ (by omega)).mono (by omega) (by simp)
  · have e2 : (y == 2) = false := by simpa using h2
    have hz5 : ge ≤ w4.heap.size := by omega
    have HBn : Hid (Bn n) := hdn.bn
    clear h0 h1 h2
    go_wp2_with (first | (refine wpList_load_row rfl 34 _ rfl ge rfl 34 (ec n (.slice ao l.length cap)) (0, 0) _ R4.out Tryz.underlying34 rfl (sizeE _ _) ?_) | (refine wpList_store_row rfl 34 _ _ rfl w.heap.size (ec n (.slice ao l.length cap)) rfl rfl 34 _ E4.out (sizeE _ _) rfl (oneE _ (one_slice _ _ _)) ?_))
    refine bodyPost_ret (v := .agg (ec n (.slice ao l.length cap))) (results_cell_row rfl _ _ w.heap.size 34 _ (0, 0) _ rfl (setRow_heap _ _ _ _ _ (0, 0) E4.out) Tryz.underlying34 rfl (sizeE _ _)) rfl ⟨n, (.slice ao l.length cap), l, rfl, HBn.out, hsr.1, by omega, ?_, (D4.out).on hg hgw (below_setRow (Below.refl _ _) (Nat.le_refl _) _)⟩
    exact (Od.keep O4.out fun q h1 h2 => setRow_other _ _ _ _ (by omega)).mono (by omega) (by simpa using hz5)

end Go.Proofs.YtlhmemnaiobgkaaGreatDoor.Ent
