/- Texts in one: Laws, Puts, Gets, Plain3. -/
import Derived.Test.YtfpaichdkddglabGreatDoorPk2
import Derived.Test.YtfpaichdkddglabGreatDoorPk3
import Derived.Test.YtfpaichdkddglabGreatDoorPk1
import Derived.Laws.AppendOwnNone
import Derived.Lib.AppendStr
import Derived.Laws.CopyOwn
namespace Go.Proofs.YtfpaichdkddglabGreatDoor.Laws
open Go.RowKit Go.Proofs.YtfpaichdkddglabGreatDoor.Mem
def sb (s : ByteArray) : List Int := s.data.toList.map fun b => (b.toNat : Int)
theorem sb_len (s : ByteArray) : (sb s).length = s.size := by simp [sb]
theorem sb_cells (s : ByteArray) : Lib.strCells s = bs (sb s) := by simp [Lib.strCells, bs, sb, Function.comp_def]
theorem sb_byt (s : ByteArray) : Byt (sb s) := by
 intro x hx
 obtain ⟨b, _, rfl⟩ := List.mem_map.1 hx
 have := b.toNat_lt
 omega
theorem bs_one (xs : List Int) : ∀ u ∈ bs xs, u.oneCell' = true := ints_oneCell _ _
theorem Sl.one (w : World) (u : Value) (t : TypeId) : Sl (w.alloc (.cells #[u] t)) (.slice (some ⟨w.heap.size, 0, none⟩) 1 1) [u] := by
 refine ⟨some ⟨w.heap.size, 0, none⟩, 1, rfl, by simp, fun h => (by cases h), fun _ => ⟨w.heap.size, 0, rfl, fun j hj => ?_⟩⟩
 have hj0 : j = 0 := by simp at hj; omega
 subst hj0
 rw [cell_of_row _ w.heap.size 0 #[u] t (0, 0) (heap_alloc_new w _)]
 simp
theorem full_block {w : World} {base : Nat} {e : TypeId} {g n : Nat} {L : List Value} (h : w.ownsRow base e 1 (.slice (some ⟨g, 0, none⟩) n n) n L) : w.heap[g]? = some (.cells L.toArray e (0, 0)) := by
 obtain ⟨_, h2⟩ := h
 rcases h2 with ⟨h2, _⟩ | ⟨g', cap, cur, he, hb, hg, hnc, hcm, hcs, ht⟩
 ·
  simp at h2
 ·
  simp only [Value.slice.injEq, Option.some.injEq, Addr.mk.injEq, and_true, true_and] at he
  obtain ⟨rfl, rfl⟩ := he
  rw [List.take_of_length_le (by rw [Array.length_toList, hcs]; exact Nat.le_refl _)] at ht
  subst ht
  simpa using hg
theorem full_own {w : World} {base : Nat} {e : TypeId} {g n : Nat} {L : List Value} (hg : w.heap[g]? = some (.cells L.toArray e (0, 0))) (hb : base ≤ g) (hn : L.length = n) (hm : n ≤ maxLen) : w.ownsRow base e 1 (.slice (some ⟨g, 0, none⟩) n n) n L :=
 ⟨by omega, .inr ⟨g, n, L.toArray, rfl, hb, hg, Nat.le_refl _, hm, by simp [hn], by simp [← hn]⟩⟩
theorem splice_all {α : Type} {L C : List α} (h : L.length = C.length) : splice L 0 C = C := by
 unfold splice
 simp [h]
theorem wpl_app {P : Program} (w : World) {ops : Array Oper} {rest : List Oper} {o : Oper} {a : Act} {Q : Exit → Act → World → Prop}
  (hg : o.guard = none) (s x : Operand) (t : TypeId) (hop : o.op = Op.call { callee := Callee.builtin Builtin.append, args := #[s, x], argTypes := #[t, t] })
  (e : TypeId) (i : TypeInfo) (z : Value) (bytes : Nat) (ht : P.underlying t = some (.slice e)) (hi : P.info? e = some i) (hz : i.zero = some z) (hsize : i.size = 1) (hby : i.bytes = bytes) (hzs : z.cells.size = 1)
  (lo : Nat) (v : Value) (cs : List Value) (hs : a.eval s = v) (hown : Own w lo w.heap.size e v cs) (y : Value) (hx : a.eval x = y) (news : List Value) (hsl : Sl w y news)
  (h1 : ∀ u ∈ news, u.oneCell' = true) (h63 : cs.length + news.length ≤ maxLen) (hb : (cs.length + news.length) * bytes ≤ 140737488355328) (hlo : lo ≤ w.heap.size)
  (hK : ∀ v' w', Own w' lo w'.heap.size e v' (cs ++ news) → Below lo w w' → w.grownBy w' v.ownBlock → wpList P ops Q rest (a.put o.dst v') w') : wpList P ops Q (o :: rest) a w := by
 obtain ⟨ao, cap, rfl, hc, hn, hr⟩ := hsl
 have hblk : ∀ w', w.grownBy w' v.ownBlock → Below lo w w' := fun w' hg => (Below.refl _ _).grown hg hlo (fun k hk => (hown.1.lt k hk).1)
 cases ao with
 | none =>
  have hcap := hn rfl
  have hnil : news = [] := List.eq_nil_of_length_eq_zero (by omega)
  subst hnil
  subst hcap
  refine wpList_append_own_none hg s x t hop lo e i 1 ht hi v cs.length cs hs hown.1 hx ?_
  exact hK v w (by simpa using hown) (Below.refl _ _) (World.grownBy.refl _ _)
 | some ad =>
  refine wpList_append_own w hg s x t hop lo e i z 1 bytes ht hi hz hsize hby hzs (by decide) v cs.length cs hs hown.1 ad news.length cap news hx (by simp) ?_ h1 h63 hb hlo ?_
  ·
   intro j u hj
   have hlt : j < news.length := (List.getElem?_eq_some_iff.1 hj).1
   obtain ⟨b, off, he, hcell⟩ := hr (by omega)
   obtain rfl := Option.some.inj he
   rw [Addr.add_lit, hcell j hlt, hj]
  ·
   intro v' w' ho hgr _
   exact hK v' w' (Own.of ho) (hblk w' hgr) hgr
theorem step_app {P : Program} {ops : Array Oper} {o : Oper} {a : Act} {w : World} {K : Act → World → Prop} {Q : Exit → Act → World → Prop} {E : Prop}
  (hg : o.guard = none) (s x : Operand) (t : TypeId) (hop : o.op = Op.call { callee := Callee.builtin Builtin.append, args := #[s, x], argTypes := #[t, t] })
  (e : TypeId) (i : TypeInfo) (z : Value) (bytes : Nat) (ht : P.underlying t = some (.slice e)) (hi : P.info? e = some i) (hz : i.zero = some z) (hsize : i.size = 1) (hby : i.bytes = bytes) (hzs : z.cells.size = 1)
  (lo : Nat) (v : Value) (cs : List Value) (hs : a.eval s = v) (hown : Own w lo w.heap.size e v cs) (y : Value) (hx : a.eval x = y) (news : List Value) (hsl : Sl w y news)
  (h1 : ∀ u ∈ news, u.oneCell' = true) (h63 : cs.length + news.length ≤ maxLen) (hb : (cs.length + news.length) * bytes ≤ 140737488355328) (hlo : lo ≤ w.heap.size)
  (hK : ∀ v' w', Own w' lo w'.heap.size e v' (cs ++ news) → Below lo w w' → K (a.put o.dst v') w') : if Region.wanted o (yielded ops a.tmps) = true then Oper.wp P o a w K Q else E := by
 have hw : Region.wanted o (yielded ops a.tmps) = true := by simp [Region.wanted, hg]
 rw [if_pos hw]
 obtain ⟨ao, cap, rfl, hc, hn, hr⟩ := hsl
 have hblk : ∀ w', w.grownBy w' v.ownBlock → Below lo w w' := fun w' hg => (Below.refl _ _).grown hg hlo (fun k hk => (hown.1.lt k hk).1)
 cases ao with
 | none =>
  have hcap := hn rfl
  have hnil : news = [] := List.eq_nil_of_length_eq_zero (by omega)
  subst hnil
  subst hcap
  have hrun := run_append_owned_none (P := P) (w := w) lo t o.type e i 1 ht hi v cs.length cs hown.1
  unfold Oper.wp
  simp [execOp, hop, resolve, invoke, builtin, hs, hx, hrun, Result.andThen]
  exact hK v w (by simpa using hown) (Below.refl _ _)
 | some ad =>
  refine wp_append_own w s x t hop lo e i z 1 bytes ht hi hz hsize hby hzs (by decide) v cs.length cs hs hown.1 ad news.length cap news hx (by simp) ?_ h1 h63 hb hlo ?_
  ·
   intro j u hj
   have hlt : j < news.length := (List.getElem?_eq_some_iff.1 hj).1
   obtain ⟨b, off, he, hcell⟩ := hr (by omega)
   obtain rfl := Option.some.inj he
   rw [Addr.add_lit, hcell j hlt, hj]
  ·
   intro v' w' ho hgr _
   exact hK v' w' (Own.of ho) (hblk w' hgr)
theorem wpl_str {P : Program} (w : World) {ops : Array Oper} {rest : List Oper} {o : Oper} {a : Act} {Q : Exit → Act → World → Prop}
  (hg : o.guard = none) (s x : Operand) (t u : TypeId) (hop : o.op = Op.call { callee := Callee.builtin Builtin.append, args := #[s, x], argTypes := #[t, u] })
  (e : TypeId) (i : TypeInfo) (ht : P.underlying t = some (.slice e)) (hu : P.underlying u = some .string) (hi : P.info? e = some i) (hz : i.zero = some (.int .u8 0)) (hsize : i.size = 1) (hby : i.bytes = 1)
  (lo : Nat) (v : Value) (xs : List Int) (hs : a.eval s = v) (hown : Own w lo w.heap.size e v (bs xs)) (y : ByteArray) (hx : a.eval x = .string y)
  (hb : xs.length + y.size ≤ 140737488355328) (hlo : lo ≤ w.heap.size)
  (hK : ∀ v' w', Own w' lo w'.heap.size e v' (bs (xs ++ sb y)) → Below lo w w' → wpList P ops Q rest (a.put o.dst v') w') : wpList P ops Q (o :: rest) a w := by
 refine Lib.wpList_append_own_string w hg s x t u hop lo e i ht hu hi hz hsize hby v (bs xs).length (bs xs) hs hown.1 y hx (by rw [bs_len]; unfold maxLen; omega) (by rw [bs_len]; omega) hlo ?_
 intro v' w' ho hgr _
 rw [sb_cells, ← bs_app] at ho
 exact hK v' w' (Own.of ho) ((Below.refl _ _).grown hgr hlo (fun k hk => (hown.1.lt k hk).1))
end Go.Proofs.YtfpaichdkddglabGreatDoor.Laws
namespace Go.Proofs.YtfpaichdkddglabGreatDoor.Puts
open Go.RowKit Go.Proofs.YtfpaichdkddglabGreatDoor.Mem Go.Proofs.YtfpaichdkddglabGreatDoor.Plain Go.Proofs.YtfpaichdkddglabGreatDoor.Laws Go.Proofs.YtfpaichdkddglabGreatDoor.Bytes
set_option linter.unusedVariables false
def num (n : Int) : List Int := enc (clampN n).toNat
theorem num_byt (n : Int) : Byt (num n) := enc_byte _
theorem num_len (n : Int) : 1 ≤ (num n).length ∧ (num n).length ≤ 5 := ⟨enc_len _, enc_len5 _ (by have := clampN_bd n; omega)⟩
theorem near_any (n : Int) (w : World) : Calls Tryz.prog 114 #[.int .i64 n] w fun e w' => e = .returned (.int .i64 (clampN n)) ∧ w = w' := by
 by_cases h0 : n < 0
 ·
  have HC : Hid (clampN n = 0) := by show clampN n = 0; unfold clampN; rw [if_pos h0]
  go_enter Tryz.func114, Tryz.ntmps114
  go_wp2
  go_ret
  exact ⟨by rw [HC.out]; rfl, rfl⟩
 ·
  by_cases h1 : 1000000000 < n
  ·
   have HC : Hid (clampN n = 1000000000) := by show clampN n = _; unfold clampN; rw [if_neg h0, if_pos h1]
   go_enter Tryz.func114, Tryz.ntmps114
   go_wp2
   go_ret
   exact ⟨by rw [HC.out]; rfl, rfl⟩
  ·
   have HC : Hid (clampN n = n) := by show clampN n = _; unfold clampN; rw [if_neg h0, if_neg h1]
   go_enter Tryz.func114, Tryz.ntmps114
   go_wp2
   go_ret
   exact ⟨by rw [HC.out]; rfl, rfl⟩
set_option maxHeartbeats 400000 in
theorem own_any (w : World) (v : Value) (xs : List Int) (h : Sl w v (bs xs)) (hx : xs.length ≤ 140737488355328) :
  Calls Tryz.prog 63 #[v] w fun e w' => ∃ v', e = .returned v' ∧ Own w' w.heap.size w'.heap.size 5 v' (bs xs) ∧ Below w.heap.size w w' := by
 obtain ⟨i0, hi, hz0, hz1, hz2⟩ := info_parts info5
 have hlater : ∀ w', Below w.heap.size w w' → Sl w' v (bs xs) := fun w' hb => h.later hb
 obtain ⟨ao, cap, rfl, hc, _, hr⟩ := h
 rw [bs_len] at hr hc hlater
 rw [bs_len]
 go_enter Tryz.func63, Tryz.ntmps63
 go_wp2_with (first | (at_make; refine wpList_make_full _ rfl _ _ 27 rfl w.heap.size 5 i0 (.int .u8 0) 1 Tryz.underlying27 hi hz0 hz1 _ _ _ _ xs.length rfl rfl rfl rfl (by rw [hz2]; omega) (by unfold maxLen; omega) (Nat.le_refl _) ?_))
 intro w1 hown hgrow
 have hbel : Below w.heap.size w w1 := (Below.refl _ _).grown hgrow (Nat.le_refl _) (by simp)
 obtain ⟨L, hown'⟩ : ∃ L, w1.ownsRow w.heap.size 5 1 (.slice (some ⟨w.heap.size, 0, none⟩) xs.length xs.length) xs.length L := ⟨_, hown⟩
 have hblk : w1.heap[w.heap.size]? = some (.cells L.toArray 5 (0, 0)) := full_block hown'
 have hLn : L.length = xs.length := by have := hown'.1; omega
 have HLn : Hid (L.length = xs.length) := hLn
 obtain ⟨C, hC⟩ : ∃ C, C = bs xs := ⟨_, rfl⟩
 have HC : Hid (C = bs xs ∧ C.length = xs.length) := ⟨hC, by rw [hC, bs_len]⟩
 have hsz : (Tryz.prog.info? 5).map (·.size) = some 1 := by rw [hi]; simp [hz1]
 obtain ⟨ao', cap', he, _, _, hr'⟩ := hlater w1 hbel
 rw [bs_len] at he hr'
 simp only [Value.slice.injEq] at he
 obtain ⟨rfl, _, rfl⟩ := he
 have HS : Hid (0 < C.length → ∃ ad, ao = some ad ∧ ∀ j u, C[j]? = some u → w1.cell? (ad.add j) = some u) := by
  intro hp
  rw [HC.out.2] at hp
  obtain ⟨b, off, rfl, hcell⟩ := hr' hp
  refine ⟨_, rfl, fun j u hj => ?_⟩
  rw [Addr.add_lit, hcell j (by have := (List.getElem?_eq_some_iff.1 hj).1; rw [HC.out.2] at this; exact this), ← HC.out.1]
  exact hj
 have HO : Hid (∀ u ∈ C, u.oneCell' = true) := by show ∀ u ∈ C, u.oneCell' = true; rw [hC]; exact bs_one _
 clear hown hown' hgrow hLn hC hr hr'
 go_wp2_with (refine wpList_copy_splice rfl (.tmp 7) (.tmp 8) 27 27 rfl 5 Tryz.underlying27 hsz _ _ _ _ _ _ rfl rfl w.heap.size 0 L 5 hblk C (HC.out.2.trans (Nat.min_self _).symm) (fun hp => ⟨rfl, HS.out hp⟩) (by rw [HC.out.2, HLn.out]; omega) HO.out w.heap.size w hbel (Nat.le_refl _) ?_)
 intro w2 hg2 hb2
 go_wp2
 go_ret
 have hfin := hg2.out
 rw [splice_all (by rw [HLn.out, HC.out.2])] at hfin
 refine ⟨_, rfl, ?_, hb2⟩
 rw [← HC.out.1]
 exact Own.of (full_own hfin (Nat.le_refl _) HC.out.2 (by unfold maxLen; omega))
theorem one_byte (x : Int) : ∀ u ∈ [Value.int .u8 x], u.oneCell' = true := by
 intro u hu
 rw [List.mem_singleton] at hu
 rw [hu]
 rfl
set_option maxRecDepth 1000000 in
set_option maxHeartbeats 1000000 in
theorem nums_one (w : World) (lo : Nat) (v : Value) (xs : List Int) (g : Nat) (n : Int) (h : Own w lo w.heap.size 5 v (bs xs)) (hlo : lo ≤ w.heap.size) (hx : xs.length ≤ 70368744177664)
  (hcell : w.cell? ⟨g, 0, none⟩ = some (.int .i64 n)) :
  Calls Tryz.prog 91 #[v, .slice (some ⟨g, 0, none⟩) 1 1] w fun e w' => ∃ v', e = .returned v' ∧ Own w' lo w'.heap.size 5 v' (bs (xs ++ num n)) ∧ Below lo w w' := by
 obtain ⟨i0, hi, hz0, hz1, hz2⟩ := info_parts info5
 go_enter Tryz.func91, Tryz.ntmps91
 go_wp2
 go_loopw [0, 9] (fun b i wr => (i = .int .i64 0 ∧ w = wr ∧ v = b) ∨ (i = .int .i64 1 ∧ Own wr lo wr.heap.size 5 b (bs (xs ++ num n)) ∧ Below lo w wr)) (fun _ i _ => 1 - (intOf i).toNat)
 case atStart => exact .inl ⟨rfl, rfl, rfl⟩
 case round =>
  rcases hrel with ⟨rfl, rfl, rfl⟩ | ⟨rfl, ho, hb⟩
  ·
   have hcb := clampN_bd n
   go_wp2_with (go_at_call 114; refine (near_any _ _).mono ?_; rintro e w' ⟨rfl, rfl⟩)
   obtain ⟨m0, hm0⟩ : ∃ m0 : Nat, clampN n = (m0 : Int) := ⟨(clampN n).toNat, by omega⟩
   have HM : Hid (num n = enc m0) := by show num n = enc m0; unfold num; rw [hm0]; rfl
   have hm0b : m0 ≤ 1000000000 := by omega
   have hnl := num_len n
   rw [hm0]
   clear hcb hcell hm0
   go_loopw [0, 6] (fun b nn wr => ∃ (m : Nat) (ys : List Int), m ≤ 1000000000 ∧ nn = .int .i64 m ∧ ys ++ enc m = xs ++ num n ∧ Own wr lo wr.heap.size 5 b (bs ys) ∧ Below lo w wr) (fun _ nn _ => (intOf nn).toNat)
   case atStart => exact ⟨m0, xs, hm0b, rfl, by rw [HM.out], h, Below.refl _ _⟩
   case round =>
    obtain ⟨m, ys, hm, rfl, hE0, ho, hb⟩ := hrel
    have HE : Hid (ys ++ enc m = xs ++ num n) := hE0
    have hyl : ys.length ≤ xs.length + 5 := by have := congrArg List.length hE0; simp at this; omega
    have hsz := hb.size
    clear hE0 HM
    by_cases hlt : 128 ≤ m
    ·
     have HS : Hid ((ys ++ [((m % 128 + 128 : Nat) : Int)]) ++ enc (m / 128) = xs ++ num n) := by
      show _ = _; rw [← HE.out, enc_step (show ¬ m < 128 by omega), List.append_assoc]; rfl
     have c2 : (bs ys).length + 1 ≤ maxLen := by rw [bs_len]; unfold maxLen; omega
     have c3 : ((bs ys).length + 1) * 1 ≤ 140737488355328 := by rw [bs_len]; omega
     have c4 : ∀ o, lo ≤ (wr.alloc o).heap.size := fun o => by simp; omega
     go_wp2_with (at_builtin; go_must (refine wpl_app _ rfl (.tmp 17) (.tmp 22) 27 rfl 5 i0 (.int .u8 0) 1 Tryz.underlying27 hi hz0 hz1 hz2 rfl lo _ (bs ys) rfl (ho.alloc _) _ rfl [.int .u8 ((m : Int) % 128 + 128)] (Sl.one _ _ _) (one_byte _) c2 c3 (c4 _) ?_); intro v1 w1 ho1 hb1 hg1)
     have hb2 : Below lo w w1 := (hb.alloc (by omega) _).trans hb1
     have ho2 : Own w1 lo w1.heap.size 5 v1 (bs (ys ++ [((m % 128 + 128 : Nat) : Int)])) := by rw [bs_app]; exact ho1
     go_roundw
     case rel => exact ⟨m / 128, ys ++ [((m % 128 + 128 : Nat) : Int)], by omega, by go_num, HS.out, ho2, hb2⟩
     case measure => simp [intOf]; omega
    ·
     have c2 : (bs ys).length + 1 ≤ maxLen := by rw [bs_len]; unfold maxLen; omega
     have c3 : ((bs ys).length + 1) * 1 ≤ 140737488355328 := by rw [bs_len]; omega
     have c4 : ∀ o, lo ≤ (wr.alloc o).heap.size := fun o => by simp; omega
     have HS : Hid (ys ++ [(m : Int)] = xs ++ num n) := by show _ = _; rw [← HE.out, enc_small (show m < 128 by omega)]
     go_wp2_with (at_builtin; go_must (refine wpl_app _ rfl (.tmp 26) (.tmp 29) 27 rfl 5 i0 (.int .u8 0) 1 Tryz.underlying27 hi hz0 hz1 hz2 rfl lo _ (bs ys) rfl (ho.alloc _) _ rfl [.int .u8 (m : Int)] (Sl.one _ _ _) (one_byte _) c2 c3 (c4 _) ?_); intro v1 w1 ho1 hb1 hg1)
     have hb2 : Below lo w w1 := (hb.alloc (by omega) _).trans hb1
     have ho2 : Own w1 lo w1.heap.size 5 v1 (bs (xs ++ num n)) := by rw [← HS.out, bs_app]; exact ho1
     go_roundw
     case rel => exact .inr ⟨rfl, ho2, hb2⟩
     case measure => simp [intOf]
  ·
   go_wp2
   go_ret
   exact ⟨_, rfl, ho, hb⟩
theorem new_cell (w : World) (u : Value) (t : TypeId) : (w.alloc (.cells #[u] t)).cell? ⟨w.heap.size, 0, none⟩ = some u := by
 rw [cell_of_row _ w.heap.size 0 #[u] t (0, 0) (heap_alloc_new w _)]
 rfl
set_option maxRecDepth 1000000 in
set_option maxHeartbeats 1000000 in
theorem put_impl (w : World) (v : Value) (xs : List Int) (n : Int) (h : Sl w v (bs xs)) (hx : xs.length ≤ 70368744177664) :
  Calls Tryz.prog 92 #[v, .int .i64 n] w fun e w' => ∃ v', e = .returned v' ∧ Own w' w.heap.size w'.heap.size 5 v' (bs (xs ++ num n)) ∧ Below w.heap.size w w' := by
 go_enter Tryz.func92, Tryz.ntmps92
 go_wp2_with fail
 refine (own_any w v xs h (by omega)).mono ?_
 rintro e w1 ⟨v1, rfl, ho1, hb1⟩
 have hsz := hb1.size
 go_wp2_with fail
 refine (nums_one _ w.heap.size v1 xs w1.heap.size n (ho1.alloc _) (by simp; omega) hx (new_cell _ _ _)).mono ?_
 rintro e w2 ⟨v2, rfl, ho2, hb2⟩
 go_wp2
 go_ret
 exact ⟨_, rfl, ho2, (hb1.alloc (by omega) _).trans hb2⟩
theorem Own.empty (w : World) (lo : Nat) (h : lo ≤ w.heap.size) : Own (w.alloc (.cells #[] 5)) lo (w.alloc (.cells #[] 5)).heap.size 5 (.slice (some ⟨w.heap.size, 0, none⟩) 0 0) (bs []) :=
 Own.of (World.ownsRow_lit w #[] 0 h (Nat.zero_le _) rfl)
set_option maxRecDepth 1000000 in
set_option maxHeartbeats 1000000 in
theorem put_spec (w : World) (v : Value) (xs : List Int) (n : Int) (h : Sl w v (bs xs)) (hx : xs.length ≤ 70368744177664) :
  Calls Tryz.prog 56 #[v, .int .i64 n] w fun e w' => ∃ v', e = .returned v' ∧ Own w' w.heap.size w'.heap.size 5 v' (bs (xs ++ num n)) ∧ Below w.heap.size w w' := by
 obtain ⟨i0, hi, hz0, hz1, hz2⟩ := info_parts info5
 have c2 : (bs []).length + (bs xs).length ≤ maxLen := by rw [bs_len, bs_len]; unfold maxLen; simp; omega
 have c3 : ((bs []).length + (bs xs).length) * 1 ≤ 140737488355328 := by rw [bs_len, bs_len]; simp; omega
 have c4 : ∀ o, w.heap.size ≤ (w.alloc o).heap.size := fun o => by simp
 have hs2 : ∀ o, Sl (w.alloc o) v (bs xs) := fun o => h.later ((Below.refl _ _).alloc (Nat.le_refl _) o)
 have HB : Hid (0 ≤ clampN n ∧ clampN n ≤ 1000000000) := clampN_bd n
 have hway : (decide (1000000000 < n) = true ∧ clampN n = 1000000000) ∨ (decide (1000000000 < n) = false ∧ decide (n < 0) = true ∧ clampN n = 0) ∨ (decide (1000000000 < n) = false ∧ decide (n < 0) = false ∧ clampN n = n) := by
  simp only [decide_eq_true_eq, decide_eq_false_iff_not]
  unfold clampN; (split <;> (try split)) <;> omega
 rcases hway with ⟨hd1, hcl⟩ | ⟨hd1, hd2, hcl⟩ | ⟨hd1, hd2, hcl⟩
 all_goals
  have HC : Hid (clampN n = _) := hcl
  clear hcl
  go_enter Tryz.func56, Tryz.ntmps56
  go_wp2_with (at_builtin; go_must (refine wpl_app _ rfl (.tmp 6) (.tmp 7) 27 rfl 5 i0 (.int .u8 0) 1 Tryz.underlying27 hi hz0 hz1 hz2 rfl w.heap.size _ (bs []) rfl (Own.empty w _ (Nat.le_refl _)) _ rfl (bs xs) (hs2 _) (bs_one _) c2 c3 (c4 _) ?_))
  intro v1 w1 ho1 hb1 hg1
  have hb2 : Below w.heap.size w w1 := ((Below.refl _ _).alloc (Nat.le_refl _) _).trans hb1
  rw [← bs_app, List.nil_append] at ho1
  clear hg1 hb1 c2 c3 c4 hs2
  go_wp2
  go_loopw [1, 5] (fun nn b wr => ∃ (m : Nat) (ys : List Int), m ≤ 1000000000 ∧ nn = .int .i64 m ∧ ys ++ enc m = xs ++ num n ∧ Own wr w.heap.size wr.heap.size 5 b (bs ys) ∧ Below w.heap.size w wr) (fun nn _ _ => (intOf nn).toNat)
  case atStart =>
   have hcb := HB.out
   have hcl := HC.out
   exact ⟨(clampN n).toNat, xs, by omega, congrArg (Value.int .i64) (by omega), rfl, ho1, hb2⟩
  case round =>
   obtain ⟨m, ys, hm, rfl, hE0, ho, hb⟩ := hrel
   have HE : Hid (ys ++ enc m = xs ++ num n) := hE0
   have hyl : ys.length ≤ xs.length + 5 := by have := congrArg List.length hE0; have := (num_len n).2; simp at *; omega
   have hsz := hb.size
   have c2 : (bs ys).length + 1 ≤ maxLen := by rw [bs_len]; unfold maxLen; omega
   have c3 : ((bs ys).length + 1) * 1 ≤ 140737488355328 := by rw [bs_len]; omega
   have c4 : ∀ o, w.heap.size ≤ (wr.alloc o).heap.size := fun o => by simp; omega
   clear hE0
   by_cases hlt : 127 < m
   ·
    have HS : Hid ((ys ++ [((m % 128 + 128 : Nat) : Int)]) ++ enc (m / 128) = xs ++ num n) := by
     show _ = _; rw [← HE.out, enc_step (show ¬ m < 128 by omega), List.append_assoc]; rfl
    have hmask := and127 (n := (m : Int)) (by omega) (by omega)
    have hor := or128 (n := (m : Int) % 128) (by omega) (by omega)
    go_wp2_with (at_builtin; go_must (refine wpl_app _ rfl (.tmp 15) (.tmp 20) 27 rfl 5 i0 (.int .u8 0) 1 Tryz.underlying27 hi hz0 hz1 hz2 rfl w.heap.size _ (bs ys) rfl (ho.alloc _) _ rfl [.int .u8 ((m : Int) % 128 + 128)] (Sl.one _ _ _) (one_byte _) c2 c3 (c4 _) ?_); intro v3 w3 ho3 hb3 hg3)
    have hb4 : Below w.heap.size w w3 := (hb.alloc (by omega) _).trans hb3
    have ho4 : Own w3 w.heap.size w3.heap.size 5 v3 (bs (ys ++ [((m % 128 + 128 : Nat) : Int)])) := by rw [bs_app]; exact ho3
    go_roundw
    case rel => exact ⟨m / 128, ys ++ [((m % 128 + 128 : Nat) : Int)], by omega, by go_num, HS.out, ho4, hb4⟩
    case measure => simp [intOf]; omega
   ·
    have HS : Hid (ys ++ [(m : Int)] = xs ++ num n) := by show _ = _; rw [← HE.out, enc_small (show m < 128 by omega)]
    go_wp2_with (at_builtin; go_must (refine wpl_app _ rfl (.tmp 24) (.tmp 27) 27 rfl 5 i0 (.int .u8 0) 1 Tryz.underlying27 hi hz0 hz1 hz2 rfl w.heap.size _ (bs ys) rfl (ho.alloc _) _ rfl [.int .u8 (m : Int)] (Sl.one _ _ _) (one_byte _) c2 c3 (c4 _) ?_); intro v3 w3 ho3 hb3 hg3)
    have hb4 : Below w.heap.size w w3 := (hb.alloc (by omega) _).trans hb3
    have ho4 : Own w3 w.heap.size w3.heap.size 5 v3 (bs (xs ++ num n)) := by rw [← HS.out, bs_app]; exact ho3
    go_ret
    exact ⟨_, rfl, ho4, hb4⟩
def tx (s : ByteArray) : List Int := num (s.size : Int) ++ sb s
def tot : List ByteArray → Nat
 | [] => 0
 | s :: r => s.size + tot r
def txs : List ByteArray → List Int
 | [] => []
 | s :: r => tx s ++ txs r
theorem tx_len (s : ByteArray) : (tx s).length ≤ s.size + 5 := by
 unfold tx; have := num_len (s.size : Int); rw [List.length_append, sb_len]; omega
theorem txs_len (l : List ByteArray) : (txs l).length ≤ 5 * l.length + tot l := by
 induction l with
 | nil => simp [txs, tot]
 | cons s r ih => have := tx_len s; simp only [txs, tot, List.length_append, List.length_cons]; omega
theorem tx_byt (s : ByteArray) : Byt (tx s) := (num_byt _).app (sb_byt _)
set_option maxRecDepth 1000000 in
set_option maxHeartbeats 1000000 in
theorem putt_spec (w : World) (v : Value) (xs : List Int) (s : ByteArray) (h : Sl w v (bs xs)) (hx : xs.length ≤ 35184372088832) (hs : s.size ≤ 35184372088832) :
  Calls Tryz.prog 55 #[v, .string s] w fun e w' => ∃ v', e = .returned v' ∧ Own w' w.heap.size w'.heap.size 5 v' (bs (xs ++ tx s)) ∧ Below w.heap.size w w' := by
 obtain ⟨i0, hi, hz0, hz1, hz2⟩ := info_parts info5
 have hnl := num_len (s.size : Int)
 go_enter Tryz.func55, Tryz.ntmps55
 go_wp2_with fail
 refine (put_spec w v xs _ h (by omega)).mono ?_
 rintro e w1 ⟨v1, rfl, ho1, hb1⟩
 have hsz := hb1.size
 have c1 : (xs ++ num (s.size : Int)).length + s.size ≤ 140737488355328 := by rw [List.length_append]; omega
 go_wp2_with (at_builtin; go_must (refine wpl_str _ rfl (.tmp 8) (.tmp 9) 27 9 rfl 5 i0 Tryz.underlying27 Tryz.underlying9 hi hz0 hz1 hz2 w.heap.size _ _ rfl ho1 s rfl c1 hsz ?_); intro v2 w2 ho2 hb2)
 go_ret
 rw [List.append_assoc] at ho2
 exact ⟨_, rfl, ho2, hb1.trans hb2⟩
set_option maxRecDepth 1000000 in
set_option maxHeartbeats 1000000 in
theorem texts_any (w : World) (lo : Nat) (v : Value) (xs : List Int) (vt : Value) (l : List ByteArray) (h : Own w lo w.heap.size 5 v (bs xs)) (hlo : lo ≤ w.heap.size) (ht : Sl w vt (ss l)) (hkeep : ∀ w', Below lo w w' → 1 < l.length → Sl w' vt (ss l))
  (hx : xs.length + (txs l).length ≤ 35184372088832) (hl : l.length ≤ 35184372088832) :
  Calls Tryz.prog 90 #[v, vt] w fun e w' => ∃ v', e = .returned v' ∧ Own w' lo w'.heap.size 5 v' (bs (xs ++ txs l)) ∧ Below lo w w' := by
 obtain ⟨i0, hi, hz0, hz1, hz2⟩ := info_parts info5
 obtain ⟨ao, cap, rfl, hc, hn, hr⟩ := ht
 rw [ss_len] at hr hc hkeep
 rw [ss_len]
 go_enter Tryz.func90, Tryz.ntmps90
 go_wp2
 go_loopw [0, 9] (fun b i wr => ∃ (k : Nat) (ys : List Int), k ≤ l.length ∧ i = .int .i64 k ∧ ys ++ txs (l.drop k) = xs ++ txs l ∧ Own wr lo wr.heap.size 5 b (bs ys) ∧ Below lo w wr ∧ (k = 0 → wr = w)) (fun _ i _ => l.length - (intOf i).toNat)
 case atStart => exact ⟨0, xs, Nat.zero_le _, rfl, rfl, h, Below.refl _ _, fun _ => rfl⟩
 case round =>
  obtain ⟨k, ys, hk, rfl, hE0, ho, hb, hfirst⟩ := hrel
  have HE : Hid (ys ++ txs (l.drop k) = xs ++ txs l) := hE0
  have hsz := hb.size
  by_cases hlt : k < l.length
  ·
   obtain ⟨s, hs0⟩ : ∃ s, l[k]? = some s := ⟨l[k], by simp⟩
   have HD : Hid (l.drop k = s :: l.drop (k + 1)) := by
    obtain ⟨hk', rfl⟩ := List.getElem?_eq_some_iff.1 hs0
    exact List.drop_eq_getElem_cons hk'
   have hlen : ys.length + (tx s).length ≤ 35184372088832 := by
    have h1 := congrArg List.length HE.out
    rw [HD.out] at h1
    simp only [txs, List.length_append] at h1
    omega
   have htl : s.size ≤ (tx s).length := by unfold tx; rw [List.length_append, sb_len]; omega
   have hnl := num_len (s.size : Int)
   have hcl : ∃ b off, ao = some ⟨b, off, none⟩ ∧ wr.cell? ⟨b, off + k, none⟩ = some (.string s) := by
    have key : ∀ w0 : World, (0 < l.length → ∃ b off, ao = some ⟨b, off, none⟩ ∧ ∀ j, j < l.length → w0.cell? ⟨b, off + j, none⟩ = (ss l)[j]?) → ∃ b off, ao = some ⟨b, off, none⟩ ∧ w0.cell? ⟨b, off + k, none⟩ = some (.string s) := by
     intro w0 hq
     obtain ⟨b, off, he, hc⟩ := hq (by omega)
     exact ⟨b, off, he, by rw [hc k hlt]; simp [ss, hs0]⟩
    by_cases h0 : k = 0
    ·
     rw [hfirst h0]; exact key w hr
    ·
     obtain ⟨ao', cap', he, _, _, hr'⟩ := hkeep wr hb (by omega)
     rw [ss_len] at he hr'
     simp only [Value.slice.injEq] at he
     obtain ⟨rfl, _, rfl⟩ := he
     exact key wr hr'
   obtain ⟨b, off, rfl, hcell⟩ := hcl
   have HN : Hid ((ys ++ tx s) ++ txs (l.drop (k + 1)) = xs ++ txs l) := by
    show _ = _; rw [← HE.out, HD.out, List.append_assoc]; rfl
   clear hs0 HD hE0 HE hr hkeep hfirst h
   go_wp2_with fail
   refine (nums_one _ lo _ ys wr.heap.size (s.size : Int) (ho.alloc _) (by simp; omega) (by omega) (new_cell _ _ _)).mono ?_
   rintro e w1 ⟨v1, rfl, ho1, hb1⟩
   have hb1' : Below lo w w1 := (hb.alloc (by omega) _).trans hb1
   have hsz1 : lo ≤ w1.heap.size := by have := hb1'.size; omega
   have c1 : (ys ++ num (s.size : Int)).length + s.size ≤ 140737488355328 := by rw [List.length_append]; omega
   go_wp2_with (at_builtin; go_must (refine wpl_str _ rfl (.tmp 17) (.tmp 18) 27 9 rfl 5 i0 Tryz.underlying27 Tryz.underlying9 hi hz0 hz1 hz2 lo _ _ rfl ho1 s rfl c1 hsz1 ?_); intro v2 w2 ho2 hb2)
   rw [List.append_assoc] at ho2
   have hb3 : Below lo w w2 := hb1'.trans hb2
   go_roundw
   case rel => exact ⟨k + 1, ys ++ tx s, by omega, by go_num, HN.out, ho2, hb3, fun h => by omega⟩
   case measure => simp [intOf]; omega
  ·
   go_wp2
   go_ret
   have h1 := HE.out
   rw [List.drop_eq_nil_of_le (by omega)] at h1
   simp only [txs, List.append_nil] at h1
   rw [h1] at ho
   exact ⟨_, rfl, ho, hb⟩
theorem Sl.oneStr (w : World) (s : ByteArray) (t : TypeId) : Sl (w.alloc (.cells #[.string s] t)) (.slice (some ⟨w.heap.size, 0, none⟩) 1 1) (ss [s]) := Sl.one w (.string s) t
theorem drop_str {l : List ByteArray} {k : Nat} {s : ByteArray} (h : l[k]? = some s) : l.drop k = s :: l.drop (k + 1) := by
 obtain ⟨hk, rfl⟩ := List.getElem?_eq_some_iff.1 h
 exact List.drop_eq_getElem_cons hk
set_option maxRecDepth 1000000 in
set_option maxHeartbeats 1000000 in
theorem putts_spec (w : World) (v vt : Value) (xs : List Int) (l : List ByteArray) (h : Sl w v (bs xs)) (ht : Sl w vt (ss l)) (hx : xs.length + (txs l).length + 5 ≤ 10000000000000) (hl : l.length ≤ 10000000000000) :
  Calls Tryz.prog 54 #[v, vt] w fun e w' => ∃ v', e = .returned v' ∧ Own w' w.heap.size w'.heap.size 5 v' (bs (xs ++ num (l.length : Int) ++ txs l)) ∧ Below w.heap.size w w' := by
 have hlater : ∀ w', Below w.heap.size w w' → Sl w' vt (ss l) := fun w' hb => ht.later hb
 obtain ⟨ao, cap, rfl, hc, hn, hr⟩ := ht
 rw [ss_len] at hr hc hlater
 rw [ss_len]
 have hnl := num_len (l.length : Int)
 obtain ⟨R, hR⟩ : ∃ R, R = xs ++ num (l.length : Int) ++ txs l := ⟨_, rfl⟩
 have HR : Hid (xs ++ num (l.length : Int) ++ txs l = R) := hR.symm
 have hRl : R.length ≤ 10000000000000 := by rw [hR]; simp only [List.length_append]; omega
 clear hR hr hn
 go_enter Tryz.func54, Tryz.ntmps54
 go_wp2_with fail
 refine (put_spec w v xs _ h (by omega)).mono ?_
 rintro e w1 ⟨v1, rfl, ho1, hb1⟩
 go_wp2_with fail
 go_loopw [5, 6] (fun b i wr => ∃ (k : Nat) (ys : List Int), k ≤ l.length ∧ i = .int .i64 k ∧ ys ++ txs (l.drop k) = R ∧ Own wr w.heap.size wr.heap.size 5 b (bs ys) ∧ Below w.heap.size w wr) (fun _ i _ => l.length - (intOf i).toNat)
 case atStart => exact ⟨0, _, Nat.zero_le _, rfl, HR.out, ho1, hb1⟩
 case round =>
  obtain ⟨k, ys, hk, rfl, hE0, ho, hb⟩ := hrel
  have HE : Hid (ys ++ txs (l.drop k) = R) := hE0
  have hsz := hb.size
  clear hE0 ho1 hb1
  by_cases hlt : k < l.length
  ·
   obtain ⟨ao', cap', he, _, _, hr'⟩ := hlater wr hb
   rw [ss_len] at he hr'
   simp only [Value.slice.injEq] at he
   obtain ⟨rfl, _, rfl⟩ := he
   obtain ⟨b, off, s, rfl, hx0, hcell⟩ := Sl.strAt hr' rfl hlt
   have HN : Hid ((ys ++ tx s) ++ txs (l.drop (k + 1)) = R) := by
    show _ = _; rw [← HE.out, drop_str hx0, List.append_assoc]; rfl
   have hlen : ys.length + (tx s).length ≤ 10000000000000 := by
    have h1 := congrArg List.length HN.out
    simp only [List.length_append] at h1
    omega
   have htl : s.size ≤ (tx s).length := by unfold tx; rw [List.length_append, sb_len]; omega
   clear hx0 hr' hlater HR HE
   go_wp2_with fail
   refine (putt_spec wr _ ys s ho.sl (by omega) (by omega)).mono ?_
   rintro e w2 ⟨v2, rfl, ho2, hb2⟩
   have ho3 := ho2.mono hsz (Nat.le_refl _)
   have hb3 : Below w.heap.size w w2 := hb.trans (hb2.mono hsz)
   go_wp2
   go_roundw
   case rel => exact ⟨k + 1, ys ++ tx s, by omega, by go_num, HN.out, ho3, hb3⟩
   case measure => simp [intOf]; omega
  ·
   go_wp2
   go_ret
   have h1 := HE.out
   rw [List.drop_eq_nil_of_le (by omega)] at h1
   simp only [txs, List.append_nil] at h1
   rw [HR.out, ← h1]
   exact ⟨_, rfl, ho, hb⟩
set_option maxRecDepth 1000000 in
set_option maxHeartbeats 1000000 in
theorem putts_impl (w : World) (v vt : Value) (xs : List Int) (l : List ByteArray) (h : Sl w v (bs xs)) (ht : Sl w vt (ss l)) (hx : xs.length + (txs l).length + 5 ≤ 10000000000000) (hl : l.length ≤ 10000000000000) :
  Calls Tryz.prog 89 #[v, vt] w fun e w' => ∃ v', e = .returned v' ∧ Own w' w.heap.size w'.heap.size 5 v' (bs (xs ++ num (l.length : Int) ++ txs l)) ∧ Below w.heap.size w w' := by
 have hlater : ∀ w', Below w.heap.size w w' → Sl w' vt (ss l) := fun w' hb => ht.later hb
 obtain ⟨ao, cap, rfl, hc, hn, hr⟩ := ht
 rw [ss_len] at hr hc hlater
 rw [ss_len]
 have hnl := num_len (l.length : Int)
 go_enter Tryz.func89, Tryz.ntmps89
 go_wp2_with fail
 refine (own_any w v xs h (by omega)).mono ?_
 rintro e w1 ⟨v1, rfl, ho1, hb1⟩
 have hsz := hb1.size
 go_wp2_with fail
 refine (nums_one _ w.heap.size v1 xs w1.heap.size (l.length : Int) (ho1.alloc _) (by simp; omega) (by omega) (new_cell _ _ _)).mono ?_
 rintro e w2 ⟨v2, rfl, ho2, hb2⟩
 have hb3 : Below w.heap.size w w2 := (hb1.alloc (by omega) _).trans hb2
 have hsz2 := hb3.size
 go_wp2_with fail
 refine (texts_any w2 w.heap.size v2 _ _ l ho2 hsz2 (hlater _ hb3) (fun w' hb _ => hlater w' (hb3.trans hb)) (by rw [List.length_append]; omega) (by omega)).mono ?_
 rintro e w4 ⟨v4, rfl, ho4, hb4⟩
 go_wp2
 go_ret
 exact ⟨_, rfl, ho4, hb3.trans hb4⟩
end Go.Proofs.YtfpaichdkddglabGreatDoor.Puts
namespace Go.Proofs.YtfpaichdkddglabGreatDoor.Gets
open Go.RowKit Go.Proofs.YtfpaichdkddglabGreatDoor.Mem Go.Proofs.YtfpaichdkddglabGreatDoor.Plain
set_option linter.unusedVariables false
theorem ret3 {a a' b b' : Int} {c c' : Bool} (h1 : a = a') (h2 : b = b') (h3 : c = c') : Ending.returned (.tuple #[.int .i64 a, .int .i64 b, .bool c]) = .returned (.tuple #[.int .i64 a', .int .i64 b', .bool c']) := by rw [h1, h2, h3]
theorem getNum_out {xs : List Int} {at_ : Int} (h : at_ < 0 ∨ (xs.length : Int) ≤ at_) : getNum xs at_ = (0, 0, false) := by
 unfold getNum; rw [if_neg (by omega)]
theorem getNum_none {xs : List Int} {a : Nat} (ha : a < xs.length) (h : dec 0 0 1 (xs.drop a) = none) : getNum xs (a : Int) = (0, 0, false) := by
 unfold getNum; rw [if_pos (by omega)]; simp [h]
theorem getNum_some {xs : List Int} {a : Nat} {n : Int} {k : Nat} (ha : a < xs.length) (h : dec 0 0 1 (xs.drop a) = some (n, k)) : getNum xs (a : Int) = (n, (a : Int) + k, true) := by
 unfold getNum; rw [if_pos (by omega)]; simp [h]
theorem drop_at {xs : List Int} {a k : Nat} {c : Int} (h : xs[a + k]? = some c) : xs.drop (a + k) = c :: xs.drop (a + (k + 1)) := by
 obtain ⟨hk, rfl⟩ := List.getElem?_eq_some_iff.1 h
 rw [List.drop_eq_getElem_cons hk]; rfl
theorem dec_more {k : Nat} {N W c : Int} {r : List Int} (h5 : k ≠ 5) (hc : 128 ≤ c) : dec k N W (c :: r) = dec (k + 1) (N + c % 128 * W) (W * 128) r := by
 rw [dec, if_neg h5, if_pos hc]
theorem dec_five {N W c : Int} {r : List Int} : dec 5 N W (c :: r) = none := by rw [dec, if_pos rfl]
theorem dec_bad {k : Nat} {N W c : Int} {r : List Int} (h5 : k ≠ 5) (hc : c < 128) (hb : 1000000000 < N + c % 128 * W ∨ (0 < k ∧ c % 128 = 0)) : dec k N W (c :: r) = none := by
 rw [dec, if_neg h5, if_neg (by omega), if_pos hb]
theorem dec_good {k : Nat} {N W c : Int} {r : List Int} (h5 : k ≠ 5) (hc : c < 128) (hb : ¬ (1000000000 < N + c % 128 * W ∨ (0 < k ∧ c % 128 = 0))) : dec k N W (c :: r) = some (N + c % 128 * W, k + 1) := by
 rw [dec, if_neg h5, if_neg (by omega), if_neg hb]
theorem pow_bd {k : Nat} (hk : k < 5) : 1 ≤ (128 : Int) ^ k ∧ (128 : Int) ^ k ≤ 268435456 := by
 rcases (show k = 0 ∨ k = 1 ∨ k = 2 ∨ k = 3 ∨ k = 4 by omega) with rfl | rfl | rfl | rfl | rfl <;> decide
theorem prod_bd {c W : Int} (hW : 1 ≤ W) : 0 ≤ c % 128 * W ∧ c % 128 * W ≤ 127 * W :=
 ⟨Int.mul_nonneg (by omega) (by omega), Int.mul_le_mul_of_nonneg_right (by omega) (by omega)⟩
set_option maxHeartbeats 1000000 in
theorem get_impl (w : World) (v : Value) (xs : List Int) (at_ : Int) (h : Sl w v (bs xs)) (hb : Byt xs) (hx : xs.length ≤ 140737488355328) (hlo : -9223372036854775808 ≤ at_) (hhi : at_ ≤ 9223372036854775807) :
  Calls Tryz.prog 97 #[v, .int .i64 at_] w fun e w' => e = .returned (.tuple #[.int .i64 (getNum xs at_).1, .int .i64 (getNum xs at_).2.1, .bool (getNum xs at_).2.2]) ∧ w' = w := by
 obtain ⟨ao, cap, rfl, hc1, _, hr1⟩ := h
 rw [bs_len] at hr1 hc1
 rw [bs_len]
 by_cases h0 : at_ < 0
 ·
  have HG : Hid (getNum xs at_ = (0, 0, false)) := getNum_out (.inl h0)
  go_enter Tryz.func97, Tryz.ntmps97
  go_wp2
  go_ret3
  exact ⟨by rw [HG.out]; rfl, rfl⟩
 by_cases h1 : (xs.length : Int) ≤ at_
 ·
  have HG : Hid (getNum xs at_ = (0, 0, false)) := getNum_out (.inr h1)
  go_enter Tryz.func97, Tryz.ntmps97
  go_wp2
  go_ret3
  exact ⟨by rw [HG.out]; rfl, rfl⟩
 obtain ⟨a, rfl⟩ := Int.eq_ofNat_of_zero_le (show 0 ≤ at_ by omega)
 have ha : a < xs.length := by omega
 have hd0 : decide ((a : Int) < 0) = false := by simp
 obtain ⟨b, off, rfl, hcells⟩ := hr1 (by omega)
 clear h0 h1 hlo hhi
 go_enter Tryz.func97, Tryz.ntmps97
 go_wp2
 go_loop [7, 8, 24] (fun n wo i => ∃ (k : Nat) (N W : Int), k ≤ xs.length - a ∧ k ≤ 5 ∧ i = .int .i64 k ∧ n = .int .i64 N ∧ wo = .int .i64 W ∧ W = 128 ^ k ∧ 0 ≤ N ∧ N < W ∧ dec 0 0 1 (xs.drop a) = dec k N W (xs.drop (a + k))) (fun _ _ i => (xs.length - a) - (intOf i).toNat)
 case atStart => exact ⟨0, 0, 1, Nat.zero_le _, by omega, rfl, rfl, rfl, rfl, by omega, by omega, rfl⟩
 case round =>
  obtain ⟨k, N, W, hk, hk5, rfl, rfl, rfl, hW0, hN0, hN1, hD0⟩ := hrel
  have HD : Hid (W = 128 ^ k ∧ dec 0 0 1 (xs.drop a) = dec k N W (xs.drop (a + k))) := ⟨hW0, hD0⟩
  clear hD0 hW0
  by_cases hlt : k < xs.length - a
  ·
   obtain ⟨c, hc0⟩ : ∃ c, xs[a + k]? = some c := ⟨xs[a + k]'(by omega), by simp⟩
   have hcell : w.cell? ⟨b, off + a + k, none⟩ = some (.int .u8 c) := by
    rw [Nat.add_assoc, hcells (a + k) (by omega), bs_get, hc0]; rfl
   have hby := hb.at hc0
   have HC : Hid (xs.drop (a + k) = c :: xs.drop (a + (k + 1))) := drop_at hc0
   clear hcells hc0 hb
   by_cases h5 : k = 5
   ·
    have HR : Hid (getNum xs (a : Int) = (0, 0, false)) := getNum_none ha (by rw [HD.out.2, HC.out, h5]; exact dec_five)
    have h5' : ((k : Int) == 5) = true := by simp; omega
    clear HD HC h5
    go_wp2
    go_ret3
    exact ⟨by rw [HR.out]; rfl, rfl⟩
   have hWb : 1 ≤ W ∧ W ≤ 268435456 := by rw [HD.out.1]; exact pow_bd (by omega)
   have hpb := prod_bd (c := c) hWb.1
   have h5' : ((k : Int) == 5) = false := by simp; omega
   by_cases hge : 128 ≤ c
   ·
    have HR : Hid (W * 128 = 128 ^ (k + 1) ∧ dec 0 0 1 (xs.drop a) = dec (k + 1) (N + c % 128 * W) (W * 128) (xs.drop (a + (k + 1)))) :=
     ⟨by rw [HD.out.1, Int.pow_succ], by rw [HD.out.2, HC.out, dec_more h5 hge]⟩
    clear HD HC
    go_wp2
    go_round
    case rel => exact ⟨k + 1, N + c % 128 * W, W * 128, by omega, by omega, by go_num, rfl, rfl, HR.out.1, by omega, by omega, HR.out.2⟩
    case measure => simp [intOf]; omega
   ·
    have hlt8 : c < 128 := by omega
    by_cases hbig : 1000000000 < N + c % 128 * W
    ·
     have HR : Hid (getNum xs (a : Int) = (0, 0, false)) := getNum_none ha (by rw [HD.out.2, HC.out]; exact dec_bad h5 hlt8 (.inl hbig))
     clear HD HC
     go_wp2
     go_ret3
     exact ⟨by rw [HR.out]; rfl, rfl⟩
    ·
     have hdec : decide (1000000000 < N + c % 128 * W) = false := by simpa using hbig
     by_cases hk0 : 0 < k
     ·
      have hdk : decide ((0 : Int) < (k : Int)) = true := by simpa using hk0
      by_cases hz : c % 128 = 0
      ·
       have HR : Hid (getNum xs (a : Int) = (0, 0, false)) := getNum_none ha (by rw [HD.out.2, HC.out]; exact dec_bad h5 hlt8 (.inr ⟨hk0, hz⟩))
       have hz' : (c % 128 == 0) = true := by simpa using hz
       clear HD HC hz
       go_wp2
       go_ret3
       exact ⟨by rw [HR.out]; rfl, rfl⟩
      ·
       have HR : Hid (getNum xs (a : Int) = (N + c % 128 * W, (a : Int) + ((k + 1 : Nat) : Int), true)) := getNum_some ha (by rw [HD.out.2, HC.out]; exact dec_good h5 hlt8 (by omega))
       have hz' : (c % 128 == 0) = false := by simpa using hz
       clear HD HC hz
       go_wp2
       go_ret3
       exact ⟨by rw [HR.out]; exact ret3 rfl (by dsimp only; omega) rfl, rfl⟩
     ·
      have hdk : decide ((0 : Int) < (k : Int)) = false := by simpa using hk0
      have HR : Hid (getNum xs (a : Int) = (N + c % 128 * W, (a : Int) + ((k + 1 : Nat) : Int), true)) := getNum_some ha (by rw [HD.out.2, HC.out]; exact dec_good h5 hlt8 (by omega))
      clear HD HC
      go_wp2
      go_ret3
      exact ⟨by rw [HR.out]; exact ret3 rfl (by dsimp only; omega) rfl, rfl⟩
  ·
   have HR : Hid (getNum xs (a : Int) = (0, 0, false)) := getNum_none ha (by rw [HD.out.2, List.drop_eq_nil_of_le (by omega)]; rfl)
   clear HD
   go_wp2
   go_ret3
   exact ⟨by rw [HR.out]; rfl, rfl⟩
theorem and127b {c : Int} (h : 0 ≤ c ∧ c ≤ 255) : bits .and .i64 c 127 = c % 128 := and127 h.1 (by omega)
set_option maxHeartbeats 1000000 in
theorem get_spec (w : World) (v : Value) (xs : List Int) (at_ : Int) (h : Sl w v (bs xs)) (hb : Byt xs) (hx : xs.length ≤ 140737488355328) (hlo : -9223372036854775808 ≤ at_) (hhi : at_ ≤ 9223372036854775807) :
  Calls Tryz.prog 69 #[v, .int .i64 at_] w fun e w' => e = .returned (.tuple #[.int .i64 (getNum xs at_).1, .int .i64 (getNum xs at_).2.1, .bool (getNum xs at_).2.2]) ∧ w' = w := by
 obtain ⟨ao, cap, rfl, hc1, _, hr1⟩ := h
 rw [bs_len] at hr1 hc1
 rw [bs_len]
 by_cases h0 : at_ < 0
 ·
  have HG : Hid (getNum xs at_ = (0, 0, false)) := getNum_out (.inl h0)
  have hd : decide (0 ≤ at_) = false := by simp; omega
  go_enter Tryz.func69, Tryz.ntmps69
  go_wp2
  refine wp_loop_rounds 1 ?_; rw [rounds_succ]
  go_wp2
  go_ret3
  exact ⟨by rw [HG.out]; rfl, rfl⟩
 by_cases h1 : (xs.length : Int) ≤ at_
 ·
  have HG : Hid (getNum xs at_ = (0, 0, false)) := getNum_out (.inr h1)
  have hd2 : decide (at_ < (xs.length : Int)) = false := by simp; omega
  go_enter Tryz.func69, Tryz.ntmps69
  go_wp2
  refine wp_loop_rounds 1 ?_; rw [rounds_succ]
  go_wp2
  go_ret3
  exact ⟨by rw [HG.out]; rfl, rfl⟩
 obtain ⟨a, rfl⟩ := Int.eq_ofNat_of_zero_le (show 0 ≤ at_ by omega)
 have ha : a < xs.length := by omega
 obtain ⟨b, off, rfl, hcells⟩ := hr1 (by omega)
 clear h0 h1 hlo hhi
 go_enter Tryz.func69, Tryz.ntmps69
 go_wp2
 go_loop [7, 8] (fun n i => ∃ (k : Nat) (N W : Int), a + k ≤ xs.length ∧ k ≤ 5 ∧ i = .int .i64 k ∧ n = .int .i64 N ∧ W = 128 ^ k ∧ 0 ≤ N ∧ N < W ∧ dec 0 0 1 (xs.drop a) = dec k N W (xs.drop (a + k))) (fun _ i => 5 - (intOf i).toNat)
 case atStart => exact ⟨0, 0, 1, by omega, by omega, rfl, rfl, rfl, by omega, by omega, rfl⟩
 case round =>
  obtain ⟨k, N, W, hk, hk5, rfl, rfl, hW0, hN0, hN1, hD0⟩ := hrel
  have HD : Hid (W = 128 ^ k ∧ dec 0 0 1 (xs.drop a) = dec k N W (xs.drop (a + k))) := ⟨hW0, hD0⟩
  clear hD0 hW0
  by_cases h5 : k = 5
  ·
   have h5' : decide ((k : Int) < 5) = false := by simp; omega
   have HR : Hid (getNum xs (a : Int) = (0, 0, false)) := by
    by_cases hlt : a + k < xs.length
    ·
     exact getNum_none ha (by subst h5; rw [HD.out.2, List.drop_eq_getElem_cons hlt]; exact dec_five)
    ·
     exact getNum_none ha (by rw [HD.out.2, List.drop_eq_nil_of_le (by omega)]; rfl)
   clear HD h5
   go_wp2
   go_ret3
   exact ⟨by rw [HR.out]; rfl, rfl⟩
  have h5' : decide ((k : Int) < 5) = true := by simp; omega
  by_cases hlt : a + k < xs.length
  ·
   have hlt' : decide ((a : Int) + (k : Int) < (xs.length : Int)) = true := by simp; omega
   obtain ⟨c, hc0⟩ : ∃ c, xs[a + k]? = some c := ⟨xs[a + k]'(by omega), by simp⟩
   have hcell : w.cell? ⟨b, off + (a + k), none⟩ = some (.int .u8 c) := by
    rw [hcells (a + k) (by omega), bs_get, hc0]; rfl
   have hby := hb.at hc0
   have HC : Hid (xs.drop (a + k) = c :: xs.drop (a + (k + 1))) := drop_at hc0
   clear hcells hc0 hb
   have hWb : 1 ≤ W ∧ W ≤ 268435456 := by rw [HD.out.1]; exact pow_bd (by omega)
   have hpb := prod_bd (c := c) hWb.1
   have hmask := and127b hby
   have hor : bits .or .i64 N (wrap64 (c % 128 * 2 ^ (7 * k))) = N + c % 128 * W := by
    have e : (128 : Int) ^ k = 2 ^ (7 * k) := by rw [Int.pow_mul]; rfl
    have hw : wrap64 (c % 128 * 2 ^ (7 * k)) = c % 128 * 2 ^ (7 * k) := IntWalk.wrap64_in _ (by rw [← e, ← HD.out.1]; omega)
    rw [hw, HD.out.1]; exact or_join (by omega) hN0 (by rw [← HD.out.1]; exact hN1) (by omega) (by omega)
   by_cases hge : 127 < c
   ·
    have HR : Hid (W * 128 = 128 ^ (k + 1) ∧ dec 0 0 1 (xs.drop a) = dec (k + 1) (N + c % 128 * W) (W * 128) (xs.drop (a + (k + 1)))) :=
     ⟨by rw [HD.out.1, Int.pow_succ], by rw [HD.out.2, HC.out, dec_more h5 (by omega)]⟩
    clear HD HC
    go_wp2
    go_round
    case rel => exact ⟨k + 1, N + c % 128 * W, W * 128, by omega, by omega, by go_num, rfl, HR.out.1, by omega, by omega, HR.out.2⟩
    case measure => simp [intOf]; omega
   ·
    have hlt8 : c < 128 := by omega
    by_cases hk0 : 0 < k
    ·
     have hdk : decide ((0 : Int) < (k : Int)) = true := by simpa using hk0
     by_cases hz : c = 0
     ·
      have HR : Hid (getNum xs (a : Int) = (0, 0, false)) := getNum_none ha (by rw [HD.out.2, HC.out]; exact dec_bad h5 hlt8 (.inr ⟨hk0, by omega⟩))
      have hz' : (c == 0) = true := by simpa using hz
      clear HD HC hz
      go_wp2
      go_ret3
      exact ⟨by rw [HR.out]; rfl, rfl⟩
     ·
      have hz' : (c == 0) = false := by simpa using hz
      by_cases hbig : 1000000000 < N + c % 128 * W
      ·
       have HR : Hid (getNum xs (a : Int) = (0, 0, false)) := getNum_none ha (by rw [HD.out.2, HC.out]; exact dec_bad h5 hlt8 (.inl hbig))
       clear HD HC hz
       go_wp2
       go_ret3
       exact ⟨by rw [HR.out]; rfl, rfl⟩
      ·
       have HR : Hid (getNum xs (a : Int) = (N + c % 128 * W, (a : Int) + ((k + 1 : Nat) : Int), true)) := getNum_some ha (by rw [HD.out.2, HC.out]; exact dec_good h5 hlt8 (by omega))
       clear HD HC hz
       go_wp2
       go_ret3
       exact ⟨by rw [HR.out]; exact ret3 rfl (by dsimp only; omega) rfl, rfl⟩
    ·
     have hdk : decide ((0 : Int) < (k : Int)) = false := by simpa using hk0
     by_cases hbig : 1000000000 < N + c % 128 * W
     ·
      have HR : Hid (getNum xs (a : Int) = (0, 0, false)) := getNum_none ha (by rw [HD.out.2, HC.out]; exact dec_bad h5 hlt8 (.inl hbig))
      clear HD HC
      go_wp2
      go_ret3
      exact ⟨by rw [HR.out]; rfl, rfl⟩
     ·
      have HR : Hid (getNum xs (a : Int) = (N + c % 128 * W, (a : Int) + ((k + 1 : Nat) : Int), true)) := getNum_some ha (by rw [HD.out.2, HC.out]; exact dec_good h5 hlt8 (by omega))
      clear HD HC
      go_wp2
      go_ret3
      exact ⟨by rw [HR.out]; exact ret3 rfl (by dsimp only; omega) rfl, rfl⟩
  ·
   have hlt' : decide ((a : Int) + (k : Int) < (xs.length : Int)) = false := by simp; omega
   have HR : Hid (getNum xs (a : Int) = (0, 0, false)) := getNum_none ha (by rw [HD.out.2, List.drop_eq_nil_of_le (by omega)]; rfl)
   clear HD
   go_wp2
   go_ret3
   exact ⟨by rw [HR.out]; rfl, rfl⟩
end Go.Proofs.YtfpaichdkddglabGreatDoor.Gets
namespace Go.Proofs.YtfpaichdkddglabGreatDoor.Plain
open Go.Proofs.YtfpaichdkddglabGreatDoor.Mem Go.Proofs.YtfpaichdkddglabGreatDoor.Laws Go.Proofs.YtfpaichdkddglabGreatDoor.Puts Go.Proofs.YtfpaichdkddglabGreatDoor.Gets
theorem split_mul (m : Nat) (W : Int) : ((m % 128 : Nat) : Int) * W + ((m / 128 : Nat) : Int) * (W * 128) = (m : Int) * W := by
 have h : (m : Int) = ((m / 128 : Nat) : Int) * 128 + ((m % 128 : Nat) : Int) := by omega
 have e : (m : Int) * W = (((m / 128 : Nat) : Int) * 128 + ((m % 128 : Nat) : Int)) * W := by rw [← h]
 rw [e, Int.add_mul, Int.mul_assoc, Int.mul_comm 128 W, Int.add_comm]
theorem dec_enc (f : Nat) : ∀ (m : Nat) (k : Nat) (N W : Int) (r : List Int), m ≤ f → 0 ≤ N → 0 ≤ W → N + (m : Int) * W ≤ 1000000000 → k + (enc m).length ≤ 5 → (k = 0 ∨ 0 < m) → dec k N W (enc m ++ r) = some (N + (m : Int) * W, k + (enc m).length) := by
 induction f with
 | zero =>
  intro m k N W r hm h0 hW hN hk hz
  obtain rfl : m = 0 := by omega
  rw [enc_small (by omega)] at hk ⊢
  have hk0 : k = 0 := by omega
  subst hk0
  exact dec_good (by omega) (by omega) (by rintro (h | h) <;> simp at * <;> omega)
 | succ f ih =>
  intro m k N W r hm h0 hW hN hk hz
  by_cases hs : m < 128
  ·
   rw [enc_small hs] at hk ⊢
   have e : ((m : Nat) : Int) % 128 = (m : Int) := by omega
   have hg := dec_good (k := k) (N := N) (W := W) (c := (m : Int)) (r := r) (by simp at hk; omega) (by omega) (by rw [e]; omega)
   rw [e] at hg
   exact hg
  ·
   rw [enc_step hs] at hk ⊢
   simp only [List.length_cons] at hk
   have e : ((m % 128 + 128 : Nat) : Int) % 128 = ((m % 128 : Nat) : Int) := by omega
   have hstep := dec_more (k := k) (N := N) (W := W) (c := ((m % 128 + 128 : Nat) : Int)) (r := enc (m / 128) ++ r) (by omega) (by omega)
   rw [e] at hstep
   have hsm := split_mul m W
   have hp : 0 ≤ ((m % 128 : Nat) : Int) * W := Int.mul_nonneg (by omega) hW
   have hih := ih (m / 128) (k + 1) (N + ((m % 128 : Nat) : Int) * W) (W * 128) r (by omega) (by omega) (by omega) (by omega) (by omega) (.inr (by omega))
   rw [List.cons_append, hstep, hih]
   simp only [List.length_cons, Option.some.injEq, Prod.mk.injEq]
   omega
theorem num_eq (n : Int) : num n = enc (clampN n).toNat := rfl
theorem getNum_back (ys r : List Int) (n : Int) : getNum (ys ++ (num n ++ r)) (ys.length : Int) = (clampN n, (ys.length : Int) + (num n).length, true) := by
 have hb := clampN_bd n
 have hl := num_len n
 have e : ((clampN n).toNat : Int) = clampN n := by omega
 have hd := dec_enc (clampN n).toNat (clampN n).toNat 0 0 1 r (Nat.le_refl _) (by omega) (by omega) (by omega) (by rw [← num_eq]; omega) (.inl rfl)
 rw [← num_eq] at hd
 have hlen : ys.length < (ys ++ (num n ++ r)).length := by simp; omega
 have h := getNum_some (xs := ys ++ (num n ++ r)) (a := ys.length) hlen (by rw [List.drop_append, List.drop_eq_nil_of_le (Nat.le_refl _), Nat.sub_self, List.nil_append, List.drop_zero]; exact hd)
 rw [h]
 simp only [Prod.mk.injEq, and_true]
 omega
theorem u8s_sb (s : ByteArray) : u8s (sb s) = s.data.toList := by
 unfold u8s sb
 rw [List.map_map]
 have h : ((fun x : Int => UInt8.ofNat x.toNat) ∘ fun b : UInt8 => (b.toNat : Int)) = id := by
  funext b
  simp
 rw [h, List.map_id]
theorem txt_sb (s : ByteArray) : txt (sb s) = s := by
 unfold txt
 rw [u8s_sb]
theorem clamp_size {n : Nat} (h : n ≤ 1000000000) : clampN (n : Int) = (n : Int) := by
 unfold clampN
 rw [if_neg (by omega), if_neg (by omega)]
theorem getText_back (ys r : List Int) (s : ByteArray) (hs : s.size ≤ 1000000000) : getText (ys ++ (tx s ++ r)) (ys.length : Int) = (s, (ys.length : Int) + (tx s).length, true) := by
 have hg := getNum_back ys (sb s ++ r) (s.size : Int)
 rw [clamp_size hs] at hg
 have e : ys ++ (tx s ++ r) = ys ++ (num (s.size : Int) ++ (sb s ++ r)) := by unfold tx; rw [List.append_assoc]
 rw [e]
 have hl : (ys ++ (num (s.size : Int) ++ (sb s ++ r))).length = ys.length + ((num (s.size : Int)).length + (s.size + r.length)) := by
  simp only [List.length_append, sb_len]
 have hg2 : getNum (ys ++ (num (s.size : Int) ++ (sb s ++ r))) (ys.length : Int) = ((s.size : Int), ((ys.length + (num (s.size : Int)).length : Nat) : Int), true) := by
  rw [hg]; simp
 have h := getText_yes hg2 (by rw [hl]; omega)
 rw [h]
 have hd : ((ys ++ (num (s.size : Int) ++ (sb s ++ r))).drop (ys.length + (num (s.size : Int)).length)).take s.size = sb s := by
  rw [← List.append_assoc, List.drop_append, List.drop_eq_nil_of_le (by simp), List.nil_append, show ys.length + (num (s.size : Int)).length - (ys ++ num (s.size : Int)).length = 0 by simp, List.drop_zero, List.take_append_of_le_length (by rw [sb_len]; exact Nat.le_refl _), List.take_of_length_le (by rw [sb_len]; exact Nat.le_refl _)]
 rw [hd, txt_sb]
 have ht : (tx s).length = (num (s.size : Int)).length + s.size := by unfold tx; rw [List.length_append, sb_len]
 rw [ht]
 simp only [Prod.mk.injEq, and_true, true_and]
 omega
theorem rd_back (l : List ByteArray) : ∀ (ys r : List Int), (∀ s ∈ l, s.size ≤ 1000000000) → rd (ys ++ (txs l ++ r)) l.length (ys.length : Int) = some (l, (ys.length : Int) + (txs l).length) := by
 induction l with
 | nil => intro ys r _; simp [rd, txs]
 | cons s t ih =>
  intro ys r hs
  have e : ys ++ (txs (s :: t) ++ r) = ys ++ (tx s ++ (txs t ++ r)) := by simp only [txs, List.append_assoc]
  have e2 : ys ++ (tx s ++ (txs t ++ r)) = (ys ++ tx s) ++ (txs t ++ r) := by simp only [List.append_assoc]
  rw [e, List.length_cons, rd_yes (getText_back ys (txs t ++ r) s (hs s (List.mem_cons_self ..))), e2]
  have h := ih (ys ++ tx s) r (fun x hx => hs x (List.mem_cons_of_mem _ hx))
  have e3 : ((ys ++ tx s).length : Int) = (ys.length : Int) + ((tx s).length : Int) := by rw [List.length_append]; omega
  rw [e3] at h
  rw [h]
  simp only [Option.map_some, txs, List.length_append, Option.some.injEq, Prod.mk.injEq, true_and]
  omega
theorem getTexts_back (ys r : List Int) (l : List ByteArray) (hl : l.length ≤ 200) (hs : ∀ s ∈ l, s.size ≤ 1000000000) :
  getTexts ((ys ++ num (l.length : Int) ++ txs l) ++ r) (ys.length : Int) = (l, ((ys ++ num (l.length : Int) ++ txs l).length : Int), true) := by
 have hg := getNum_back ys (txs l ++ r) (l.length : Int)
 rw [clamp_size (by omega)] at hg
 have e : (ys ++ num (l.length : Int) ++ txs l) ++ r = ys ++ (num (l.length : Int) ++ (txs l ++ r)) := by simp only [List.append_assoc]
 have e2 : ys ++ (num (l.length : Int) ++ (txs l ++ r)) = (ys ++ num (l.length : Int)) ++ (txs l ++ r) := by simp only [List.append_assoc]
 rw [e]
 have hr := rd_back l (ys ++ num (l.length : Int)) r hs
 rw [← e2] at hr
 have e3 : ((ys ++ num (l.length : Int)).length : Int) = (ys.length : Int) + ((num (l.length : Int)).length : Int) := by rw [List.length_append]; omega
 rw [e3] at hr
 rw [getTexts_some hg hl hr]
 simp only [List.length_append, Prod.mk.injEq, true_and, and_true]
 omega
end Go.Proofs.YtfpaichdkddglabGreatDoor.Plain
