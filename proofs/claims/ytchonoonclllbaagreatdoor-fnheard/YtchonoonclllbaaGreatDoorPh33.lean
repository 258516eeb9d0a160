/- Texts in one: TsC, Ed5, EdO, EsB, EsC. -/
import Derived.Test.YtchonoonclllbaaGreatDoorPh32
import Derived.Deep.RegionHeld3
import Derived.Laws.EntriesVeiled
import Derived.StillTailTactics
set_option maxHeartbeats 16000000
set_option linter.unusedVariables false
set_option linter.unusedSimpArgs false
namespace Go.Proofs.YtchonoonclllbaaGreatDoor.Tr
open Go.RowKit Mem Laws Bytes Sha
theorem keepB {W W' : World} {p : Addr} {x : Value} (h : W.cell? p = some x) (b : Below W.heap.size W W') : W'.cell? p = some x := by
 rw [b.cell (World.block_lt_of_cell? W p h)]; exact h
theorem new_cellT (w : World) (u : Value) (t : TypeId) : (w.alloc (.cells #[u] t)).cell? ⟨w.heap.size, 0, none⟩ = some u := by
 rw [cell_of_row _ w.heap.size 0 #[u] t (0, 0) (heap_alloc_new w _)]
 rfl
set_option maxRecDepth 1000000 in
theorem root1_any : ∀ (N : Nat) (l : List ByteArray), l.length ≤ N → 1 ≤ l.length → l.length ≤ 256 → (∀ s ∈ l, s.size ≤ 10000000000) → ∀ (w : World) (v : Value) (g : Nat), Glob w → Sl w v (ss l) → w.cell? ⟨g, 0, none⟩ = some (.func (.func 109) #[] #[.pointer (some ⟨g, 0, none⟩)]) →
  Calls Tryz.prog 109 #[v, .pointer (some ⟨g, 0, none⟩)] w fun e w' => e = .returned (.string (root l)) ∧ Below w.heap.size w w' := by
 intro N
 induction N with
 | zero => intro l hN h1; omega
 | succ N ih =>
  intro l hN h1 hl hz w v g hG h hc
  by_cases h2 : 2 ≤ l.length
  ·have hk0 := half_pos h2
   have hk1 := (half_ok h2).2.1
   have HN : Hid (root l = nodeH (root (l.take (half l.length))) (root (l.drop (half l.length)))) := root_more h2
   have q0 := halves_any w v l h h2 hl
   obtain ⟨ao, cap, rfl, hcap, _⟩ := h
   rw [ss_len] at q0 hcap ⊢
   obtain ⟨k, hkk⟩ : ∃ k, half l.length = k := ⟨_, rfl⟩
   rw [hkk] at hk0 hk1 HN q0
   have q1 : ∀ W v1, Below w.heap.size w W → Sl w v1 (ss (l.take k)) → _ := fun W v1 hW s1 => ih (l.take k) (by rw [List.length_take]; omega) (by rw [List.length_take]; omega) (by rw [List.length_take]; omega) (fun s hs => hz s (List.mem_of_mem_take hs)) W v1 g (hG.later hW) (s1.later hW) (keepB hc hW)
   have q2 : ∀ W v1, Below w.heap.size w W → Sl w v1 (ss (l.drop k)) → _ := fun W v1 hW s1 => ih (l.drop k) (by rw [List.length_drop]; omega) (by rw [List.length_drop]; omega) (by rw [List.length_drop]; omega) (fun s hs => hz s (List.mem_of_mem_drop hs)) W v1 g (hG.later hW) (s1.later hW) (keepB hc hW)
   have x1 := root_size (l.take k)
   have x2 := root_size (l.drop k)
   obtain ⟨x, hx⟩ : ∃ x, root (l.take k) = x := ⟨_, rfl⟩
   obtain ⟨y, hy⟩ : ∃ x, root (l.drop k) = x := ⟨_, rfl⟩
   rw [hx, hy] at HN
   rw [hx] at x1
   rw [hy] at x2
   simp only [hx] at q1
   simp only [hy] at q2
   have q3 : ∀ W, Below w.heap.size w W → _ := fun W hW => node_impl W x y (hG.later hW) (by omega) (by omega)
   have d1 : ((l.length : Int) == 1) = false := by rw [beq_eq_false_iff_ne]; omega
   clear ih hN hx hy hkk hz x1 x2
   go_enter Tryz.func109, Tryz.ntmps109
   go_wp2_with fail
   refine q0.mono ?_
   rintro e w1 ⟨b, off, rfl, s1, s2, b1⟩
   have q1 := fun W hW => q1 W _ hW s1
   have q2 := fun W hW => q2 W _ hW s2
   have hc1 := keepB hc b1
   clear s1 s2 hc q0
   go_wp2_with fail
   refine wp_region_held_drew (S := fun w' => w'.cell? ⟨g, 0, none⟩ = some (.func (.func 109) #[] #[.pointer (some ⟨g, 0, none⟩)])) (by kernel_rfl) hc1 (fun hHeld => ?_)
   (refine wpAnyH_take (i := 0) (v := ?v0x1) rfl (by kernel_rfl) (by kernel_rfl) (by kernel_rfl) (fun _ _ _ h => h) (Or.inl ⟨by rfl, ?hy0x1⟩) (by assumption) ?rest0x1; case hy0x1 => (intro w hSw; (try dsimp only at hSw); go_split_ands; go_simp; (try with_reducible rfl)))
   try simp only [Act.put, pq]
   (refine wpAnyH_take (i := 1) (v := ?v1x2) rfl (by kernel_rfl) (by kernel_rfl) (by kernel_rfl) (fun _ _ _ h => h) (Or.inl ⟨by rfl, ?hy1x2⟩) (by assumption) ?rest1x2; case hy1x2 => (intro w hSw; (try dsimp only at hSw); go_split_ands; go_simp; (try with_reducible rfl)))
   try simp only [Act.put, pq]
   (refine wpAnyH_take (i := 3) (v := ?v3x3) rfl (by kernel_rfl) (by kernel_rfl) (by kernel_rfl) (fun _ _ _ h => h) (Or.inl ⟨by rfl, ?hy3x3⟩) (by assumption) ?rest3x3; case hy3x3 => (intro w hSw; (try dsimp only at hSw); go_split_ands; go_simp; (try with_reducible rfl)))
   try simp only [Act.put, pq]
   (refine wpAnyH_take (i := 4) (v := ?v4x4) rfl (by kernel_rfl) (by kernel_rfl) (by kernel_rfl) (fun _ _ _ h => h) (Or.inl ⟨by rfl, ?hy4x4⟩) (by assumption) ?rest4x4; case hy4x4 => (intro w hSw; (try dsimp only at hSw); go_split_ands; go_simp; (try with_reducible rfl)))
   try simp only [Act.put, pq]
   refine wpAnyH_ready (rs := [2]) (by kernel_rfl) (by simp) ?_
   refine AllReadyH.cons rfl (fun K hK => ?_) AllReadyH.nil
   go_simp
   refine (q1 _ (Below.drew b1)).mono ?_
   rintro e w2 ⟨rfl, b2⟩
   refine hK.out _ _ (keepB hHeld b2) (fun hHeld => ?_)
   clear hK K
   try simp only [Act.put, pq]
   have B2 : Below w.heap.size w w2 := (Below.drew b1).trans (b2.mono (Below.drew b1).size)
   refine wpAnyH_ready (rs := [5]) (by kernel_rfl) (by simp) ?_
   refine AllReadyH.cons rfl (fun K hK => ?_) AllReadyH.nil
   go_simp
   refine (q2 _ B2).mono ?_
   rintro e w3 ⟨rfl, b3⟩
   refine hK.out _ _ (keepB hHeld b3) (fun hHeld => ?_)
   clear hK K
   try simp only [Act.put, pq]
   have B3 : Below w.heap.size w w3 := B2.trans (b3.mono B2.size)
   refine wpAnyH_ready (rs := [6]) (by kernel_rfl) (by simp) ?_
   refine AllReadyH.cons rfl (fun K hK => ?_) AllReadyH.nil
   go_simp
   refine (q3 _ B3).mono ?_
   rintro e w4 ⟨rfl, b4⟩
   refine hK.out _ _ (keepB hHeld b4) (fun hHeld => ?_)
   clear hK K
   try simp only [Act.put, pq]
   have B4 : Below w.heap.size w w4 := B3.trans (b4.mono B3.size)
   (refine wpAnyH_take (i := 7) (v := ?v7x5) rfl (by kernel_rfl) (by kernel_rfl) (by kernel_rfl) (fun _ _ _ h => h) (Or.inl ⟨by rfl, ?hy7x5⟩) (by assumption) ?rest7x5; case hy7x5 => (intro w hSw; (try dsimp only at hSw); go_split_ands; go_simp; (try with_reducible rfl)))
   try simp only [Act.put, pq]
   refine wpAnyH_done (by kernel_rfl) ?_ _
   clear hHeld
   go_wp2
   go_ret
   exact ⟨by rw [HN.out]; rfl, B4⟩
  ·obtain ⟨s, rfl⟩ : ∃ s, l = [s] := by
    match l, h1, h2 with
    | [s], _, _ => exact ⟨s, rfl⟩
    | _ :: _ :: _, _, h2 => exact absurd (by simp) h2
   have HN : Hid (root [s] = leafH s) := root_one s
   have q := leaf_impl w s hG (by have := hz s (by simp); omega)
   obtain ⟨b, off, cap, rfl, hcap⟩ := slForm h (by rw [ss_len]; simp)
   have c0 : w.cell? ⟨b, off, none⟩ = some (.string s) := by
    obtain ⟨ao', c', he, _, _, hr⟩ := h
    simp only [Value.slice.injEq] at he
    obtain ⟨rfl, _, rfl⟩ := he
    obtain ⟨b', off', he', hcell⟩ := hr (by rw [ss_len]; simp)
    simp only [Option.some.injEq, Addr.mk.injEq] at he'
    obtain ⟨rfl, rfl, _⟩ := he'
    have := hcell 0 (by rw [ss_len]; simp)
    simpa [ss] using this
   have e1 : (ss [s]).length = 1 := by rw [ss_len]; rfl
   rw [e1] at hcap ⊢
   clear ih h hc hz h2 e1
   go_enter Tryz.func109, Tryz.ntmps109
   go_wp2_with fail
   refine q.mono ?_
   rintro e w1 ⟨rfl, b1⟩
   go_wp2
   go_ret
   exact ⟨by rw [HN.out]; rfl, b1⟩
set_option maxRecDepth 1000000 in
theorem root_impl (w : World) (v : Value) (l : List ByteArray) (hG : Glob w) (h : Sl w v (ss l)) (hl : l.length ≤ 1000000000000) (hz : ∀ s ∈ l, s.size ≤ 10000000000) :
  Calls Tryz.prog 61 #[v] w fun e w' => e = .returned (.string (rootOf l)) ∧ Below w.heap.size w w' := by
 have h0 := h
 obtain ⟨ao, cap, rfl, hcap, _⟩ := h
 rw [ss_len] at hcap h0 ⊢
 by_cases hn : l.length = 0
 ·obtain rfl : l = [] := List.eq_nil_of_length_eq_zero hn
  have HN : Hid (rootOf [] = Plain.txt (digest [])) := by show _ = _; unfold rootOf; rw [if_pos (by simp), root_nil]
  have q := digest_impl w (.slice none 0 0) [] hG (Sl.nil w) (by intro x hx; simp at hx) (by simp)
  clear hz h0
  go_enter Tryz.func61, Tryz.ntmps61
  go_wp2_with fail
  refine q.mono ?_
  rintro e w1 ⟨rfl, b1⟩
  go_wp2
  go_ret
  exact ⟨by rw [HN.out]; rfl, b1⟩
 have d0 : ((l.length : Int) == 0) = false := by rw [beq_eq_false_iff_ne]; omega
 by_cases hb : 200 < l.length
 ·have HN : Hid (rootOf l = ⟨#[]⟩) := by show _ = _; unfold rootOf; rw [if_neg (by omega)]
  have d1 : (200 : Int) < (l.length : Int) := by omega
  clear hz h0
  go_enter Tryz.func61, Tryz.ntmps61
  go_wp2
  go_ret
  exact ⟨by rw [HN.out]; rfl, Below.refl _ _⟩
 ·have HN : Hid (rootOf l = root l) := by show _ = _; unfold rootOf; rw [if_pos (by omega)]
  have d1 : ¬ (200 : Int) < (l.length : Int) := by omega
  have hB : ∀ (u : Value) (t : TypeId), Below w.heap.size w (w.alloc (.cells #[u] t)) := fun u t => (Below.refl _ _).alloc (Nat.le_refl _) _
  have q : ∀ (t : TypeId), _ := fun t => root1_any l.length l (Nat.le_refl _) (by omega) (by omega) hz (w.alloc (.cells #[.func (.func 109) #[] #[.pointer (some ⟨w.heap.size, 0, none⟩)]] t)) _ w.heap.size (hG.later (hB _ t)) (h0.later (hB _ t)) (new_cellT _ _ _)
  clear h0 hz
  go_enter Tryz.func61, Tryz.ntmps61
  go_wp2_with fail
  refine (q _).mono ?_
  rintro e w1 ⟨rfl, b1⟩
  have B1 : Below w.heap.size w w1 := (hB _ _).trans (b1.mono (hB _ _).size)
  go_wp2
  go_ret
  exact ⟨by rw [HN.out]; rfl, B1⟩
end Go.Proofs.YtchonoonclllbaaGreatDoor.Tr
namespace Go.Proofs.YtchonoonclllbaaGreatDoor.Ed
open Go.RowKit Mem Laws Bytes Sha Tr
theorem nil9 (w : World) (lo hi : Nat) : Own w lo hi 9 (.slice none 0 0) (ss []) :=
 ⟨World.ownsRow_nil w lo 9 1, fun g hg => by simp [Value.ownBlock] at hg⟩
theorem World.grownBy_refl (w : World) (row : Option Nat) : w.grownBy w row := by
 first
  | exact ⟨rfl, rfl, rfl, Nat.le_refl _, fun _ _ _ => rfl⟩
  | exact ⟨Nat.le_refl _, fun _ _ _ => rfl, rfl, rfl, rfl⟩
  | (constructor <;> first | rfl | exact Nat.le_refl _ | (intros; rfl) | (intros; assumption))
theorem step_appG {P : Program} {ops : Array Oper} {o : Oper} {a : Act} {w : World} {K : Act → World → Prop} {Q : Exit → Act → World → Prop} {E : Prop}
  (hg : o.guard = none) (s x : Operand) (t : TypeId) (hop : o.op = Op.call { callee := Callee.builtin Builtin.append, args := #[s, x], argTypes := #[t, t] })
  (e : TypeId) (i : TypeInfo) (z : Value) (bytes : Nat) (ht : P.underlying t = some (.slice e)) (hi : P.info? e = some i) (hz : i.zero = some z) (hsize : i.size = 1) (hby : i.bytes = bytes) (hzs : z.cells.size = 1)
  (lo : Nat) (v : Value) (cs : List Value) (hs : a.eval s = v) (hown : Own w lo w.heap.size e v cs) (y : Value) (hx : a.eval x = y) (news : List Value) (hsl : Sl w y news)
  (h1 : ∀ u ∈ news, u.oneCell' = true) (h63 : cs.length + news.length ≤ maxLen) (hb : (cs.length + news.length) * bytes ≤ 140737488355328) (hlo : lo ≤ w.heap.size)
  (hK : ∀ v' w', Own w' lo w'.heap.size e v' (cs ++ news) → Below lo w w' → w.grownBy w' v.ownBlock → K (a.put o.dst v') w') : if Region.wanted o (yielded ops a.tmps) = true then Oper.wp P o a w K Q else E := by
 have hw : Region.wanted o (yielded ops a.tmps) = true := by simp [Region.wanted, hg]
 rw [if_pos hw]
 obtain ⟨ao, cap, rfl, hc, hn, hr⟩ := hsl
 have hblk : ∀ w', w.grownBy w' v.ownBlock → Below lo w w' := fun w' hg => (Below.refl _ _).grown hg hlo (fun k hk => (hown.1.lt k hk).1)
 cases ao with
 | none =>
  have hcap := hn rfl
  have hnil : news = [] := List.eq_nil_of_length_eq_zero (by omega)
  subst hnil
  subst hcap
  have hrun := run_append_owned_none (P := P) (w := w) lo t o.type e i 1 ht hi v cs.length cs hown.1
  unfold Oper.wp
  simp [execOp, hop, resolve, invoke, builtin, hs, hx, hrun, Result.andThen]
  exact hK v w (by simpa using hown) (Below.refl _ _) (World.grownBy_refl w v.ownBlock)
 | some ad =>
  refine wp_append_own w s x t hop lo e i z 1 bytes ht hi hz hsize hby hzs (by decide) v cs.length cs hs hown.1 ad news.length cap news hx (by simp) ?_ h1 h63 hb hlo ?_
  ·intro j u hj
   have hlt : j < news.length := (List.getElem?_eq_some_iff.1 hj).1
   obtain ⟨b, off, he, hcell⟩ := hr (by omega)
   obtain rfl := Option.some.inj he
   rw [Addr.add_lit, hcell j hlt, hj]
  ·intro v' w' ho hgr _
   exact hK v' w' (Own.of ho) (hblk w' hgr) hgr
theorem Own.owns {w : World} {lo hi : Nat} {e : TypeId} {v : Value} {cs : List Value} (h : Own w lo hi e v cs) {g : Nat} (hg : v.ownBlock = some g) : lo ≤ g ∧ g < hi := by
 obtain ⟨⟨h1, h2⟩, h3⟩ := h
 refine ⟨?_, h3 g hg⟩
 rcases h2 with ⟨rfl, _⟩ | ⟨g', cap, cur, rfl, hb, _⟩
 ·cases hg
 ·simp only [Value.ownBlock, Option.some.injEq] at hg
  omega
theorem Own.keepO {w w' : World} {lo hi : Nat} {e : TypeId} {v : Value} {cs : List Value} (h : Own w lo hi e v cs) (hk : ∀ g, v.ownBlock = some g → w'.heap[g]? = w.heap[g]?) : Own w' lo hi e v cs := by
 obtain ⟨⟨h1, h2⟩, h3⟩ := h
 refine ⟨⟨h1, ?_⟩, h3⟩
 rcases h2 with h2 | ⟨g, cap, cur, rfl, hb, hg, r⟩
 ·exact .inl h2
 ·exact .inr ⟨g, cap, cur, rfl, hb, by rw [hk g rfl]; exact hg, r⟩
theorem Own.put {w : World} {lo hi gb n cap : Nat} {l : List ByteArray} (h : Own w lo hi 9 (.slice (some ⟨gb, 0, none⟩) n cap) (ss l)) (k : Nat) (x : ByteArray) : Own (w.setCell ⟨gb, k, none⟩ (.string x)) lo hi 9 (.slice (some ⟨gb, 0, none⟩) n cap) (ss (l.set k x)) := by
 obtain ⟨⟨h1, h2⟩, h3⟩ := h
 have hl : (ss (l.set k x)).length = (ss l).length := by rw [ss_len, ss_len, List.length_set]
 refine ⟨⟨by rw [Nat.mul_one], ?_⟩, h3⟩
 rcases h2 with ⟨he, _⟩ | ⟨g', cap', cur, he, hb, hg, hnc, hcm, hcs, ht⟩
 ·cases he
 ·simp only [Value.slice.injEq, Option.some.injEq, Addr.mk.injEq] at he
  obtain ⟨⟨rfl, _⟩, rfl, rfl⟩ := he
  refine .inr ⟨gb, cap, cur.setIfInBounds k (.string x), by rw [hl], hb, row_set hg k _, by rw [hl]; exact hnc, hcm, by simp; omega, ?_⟩
  rw [hl, Array.toList_setIfInBounds, List.take_set, ht]
  simp [ss]
def Sk (w : World) (lo gs : Nat) (hs : List ByteArray) : Prop :=
 ∃ v, lo ≤ gs ∧ w.heap[gs]? = some (.cells #[v] 190 (0, 0)) ∧ Own w lo w.heap.size 9 v (ss hs)
theorem Sk.own_ne {w : World} {lo gs hi : Nat} {v v' : Value} {cs : List Value} (h : w.heap[gs]? = some (.cells #[v'] 190 (0, 0))) (ho : Own w lo hi 9 v cs) : ∀ g, v.ownBlock = some g → g ≠ gs := by
 intro g hg he
 subst he
 obtain ⟨⟨_, hh⟩, _⟩ := ho
 rcases hh with ⟨rfl, _⟩ | ⟨g', cp, cur, rfl, _, hcur, _⟩
 ·cases hg
 ·simp only [Value.ownBlock, Option.some.injEq] at hg
  rw [hg, h] at hcur
  have := Option.some.inj hcur
  simp only [Obj.cells.injEq] at this
  exact absurd this.2.1 (by decide)
theorem Sk.later {w w' : World} {lo gs : Nat} {hs : List ByteArray} (h : Sk w lo gs hs) (hb : Below w.heap.size w w') : Sk w' lo gs hs := by
 obtain ⟨v, h1, h2, h3⟩ := h
 exact ⟨v, h1, rowKeep h2 hb, (h3.later hb (Nat.le_refl _)).mono (Nat.le_refl _) hb.size⟩
theorem Sk.sl {w : World} {lo gs : Nat} {hs : List ByteArray} (h : Sk w lo gs hs) : ∃ ao L cap, w.cell? ⟨gs, 0, none⟩ = some (.slice ao L cap) ∧ Own w lo w.heap.size 9 (.slice ao L cap) (ss hs) := by
 obtain ⟨v, h1, h2, h3⟩ := h
 obtain ⟨ao, L, cap, rfl, _, _⟩ := Mem.Own.form h3
 exact ⟨ao, L, cap, row_at h2 0, h3⟩
set_option maxRecDepth 1000000 in
theorem push_any (w : World) (lo gs : Nat) (hs : List ByteArray) (x : ByteArray) (h : Sk w lo gs hs) (hl : hs.length ≤ 1000000000) :
  Calls Tryz.prog 161 #[.pointer (some ⟨gs, 0, none⟩), .string x] w fun e w' => e = .returned (.tuple #[]) ∧ Sk w' lo gs (hs ++ [x]) ∧ Below lo w w' := by
 obtain ⟨i0, hi, hz0, hz1, hz2⟩ := info_parts info9t
 obtain ⟨v, hlo, hr, ho⟩ := h
 have hgs := (Array.getElem?_eq_some_iff.1 hr).1
 have hne := Sk.own_ne hr ho
 obtain ⟨ao, L, cap, rfl, _, _⟩ := Mem.Own.form ho
 have k0 : w.cell? ⟨gs, 0, none⟩ = some (.slice ao L cap) := row_at hr 0
 have c6 : (ss hs).length + 1 ≤ maxLen := by rw [ss_len]; unfold maxLen; omega
 have c7 : ((ss hs).length + 1) * 16 ≤ 140737488355328 := by rw [ss_len]; omega
 have c8 : ∀ o, lo ≤ (w.alloc o).heap.size := fun o => by simp; omega
 go_enter Tryz.func161, Tryz.ntmps161
 go_wp2_with (at_builtin; go_must (refine wpl_app _ rfl (.tmp 8) (.tmp 10) 24 rfl 9 i0 (.string ⟨#[]⟩) 16 Tryz.underlying24 hi hz0 hz1 hz2 rfl lo _ _ rfl (ho.alloc _) _ rfl [.string x] (Laws.Sl.one _ _ _) (oneT _) c6 c7 (c8 _) ?_))
 intro v2 w2 o2 b2 g2
 have o2 : Own w2 lo w2.heap.size 9 v2 (ss (hs ++ [x])) := by rw [ss_app]; exact o2
 have r2 : w2.heap[gs]? = some (.cells #[.slice ao L cap] 190 (0, 0)) := (g2.block gs (by simp; omega) (fun h => hne gs h.symm rfl)).trans ((heap_alloc_old w _ hgs).trans hr)
 have n2 := Sk.own_ne r2 o2
 obtain ⟨ao2, L2, cap2, rfl, _, _⟩ := Mem.Own.form o2
 have k2 : w2.cell? ⟨gs, 0, none⟩ = some (.slice ao L cap) := row_at r2 0
 have f2 : w2.frozen? ⟨gs, 0, none⟩ = false := row_free r2 0
 have HS : Hid (Sk (w2.setCell ⟨gs, 0, none⟩ (.slice ao2 L2 cap2)) lo gs (hs ++ [x])) := ⟨_, hlo, row_set r2 0 _, (Own.keepO o2 (fun g hg => Below.heap_setCell _ _ _ _ (n2 g hg))).mono (Nat.le_refl _) (by simp [World.setCell])⟩
 have HB : Hid (Below lo w (w2.setCell ⟨gs, 0, none⟩ (.slice ao2 L2 cap2))) := (((Below.refl lo w).alloc (by omega) _).trans b2).setCell (p := ⟨gs, 0, none⟩) hlo _
 clear r2 n2 o2 b2 g2 hr ho hne k0
 go_wp2
 first
  | (refine bodyPost_ret (results_none rfl _ _ _) rfl ?_)
  | (refine bodyPost_end (results_none rfl _ _ _) rfl ?_)
 exact ⟨rfl, HS.out, HB.out⟩
set_option maxRecDepth 1000000 in
theorem pop_none (w : World) (lo gs : Nat) (h : Sk w lo gs []) :
  Calls Tryz.prog 162 #[.pointer (some ⟨gs, 0, none⟩)] w fun e w' => e = .returned (.tuple #[.string ⟨#[]⟩, .bool false]) ∧ w = w' := by
 obtain ⟨v, hlo, hr, ho⟩ := h
 obtain ⟨ao, cap, rfl⟩ := ho.len
 have k0 : w.cell? ⟨gs, 0, none⟩ = some (.slice ao 0 cap) := row_at hr 0
 clear ho hr
 go_enter Tryz.func162, Tryz.ntmps162
 go_wp2
 go_ret2
 exact ⟨rfl, rfl⟩
set_option maxRecDepth 1000000 in
theorem pop_some (w : World) (lo gs : Nat) (hs : List ByteArray) (x : ByteArray) (h : Sk w lo gs (hs ++ [x])) (hl : hs.length ≤ 1000000000) :
  Calls Tryz.prog 162 #[.pointer (some ⟨gs, 0, none⟩)] w fun e w' => e = .returned (.tuple #[.string x, .bool true]) ∧ Sk w' lo gs hs ∧ Below lo w w' := by
 obtain ⟨v, hlo, hr, ho⟩ := h
 have hne := Sk.own_ne hr ho
 obtain ⟨b, off, cap, L, rfl, hL1, hL2, hcap, c0, s1⟩ := slLast ho.sl
 have hF : Own w lo w.heap.size 9 (.slice (some ⟨b, off, none⟩) (L - 1) cap) (ss hs) := by
  have := ho.front (L - 1) (by rw [ss_len, List.length_append]; simp; omega) (by simp)
  rw [ss_take, show (hs ++ [x]).take (L - 1) = hs by rw [show L - 1 = hs.length by omega]; simp] at this
  exact this
 have k0 : w.cell? ⟨gs, 0, none⟩ = some (.slice (some ⟨b, off, none⟩) L cap) := row_at hr 0
 have f0 : w.frozen? ⟨gs, 0, none⟩ = false := row_free hr 0
 have HS : Hid (Sk ((w.drew).setCell ⟨gs, 0, none⟩ (.slice (some ⟨b, off, none⟩) (L - 1) cap)) lo gs hs) := ⟨_, hlo, row_set (w := w.drew) hr 0 _, (Own.keepO (w := w.drew) hF (fun g hg => Below.heap_setCell _ _ _ _ (hne g hg))).mono (Nat.le_refl _) (by simp [World.setCell])⟩
 have HB : Hid (Below lo w ((w.drew).setCell ⟨gs, 0, none⟩ (.slice (some ⟨b, off, none⟩) (L - 1) cap))) := (Below.drew (Below.refl lo w)).setCell (p := ⟨gs, 0, none⟩) hlo _
 have d0 : ¬ (L : Int) - 1 < 0 := by omega
 have e0 : (1 : Int) ≤ (L : Int) := by omega
 have e1 : (L : Int) - 1 < (L : Int) := by omega
 have e2 : (L : Int) - 1 ≤ (cap : Int) := by omega
 have e3 : (0 : Int) ≤ (L : Int) - 1 := by omega
 have dn : ((L : Int) - 1).toNat = L - 1 := by omega
 have hwr : IntKind.i64.wrap ((L : Int) - 1) = (L : Int) - 1 := by rw [IntKind.wrap_i64]; omega
 clear s1 hF ho hr hne hL1 hL2
 go_enter Tryz.func162, Tryz.ntmps162
 go_wp2_with fail
 refine region_tail 17 (by kernel_rfl) (by kernel_rfl) ?_
 simp only [List.take_succ_cons, List.take_zero, List.drop_succ_cons, List.drop_zero]
 repeat still_step
 refine wpStill_nil ?_
 go_wp2
 go_ret2
 exact ⟨rfl, HS.out, HB.out⟩
set_option maxRecDepth 1000000 in
theorem texts_impl (w : World) (v : Value) (hs : List ByteArray) (h : Sl w v (ss hs)) (hl : hs.length ≤ 1000000000) (hz : ∀ s ∈ hs, s.size ≤ 1000000000000) :
  Calls Tryz.prog 134 #[v] w fun e w' => ∃ v', e = .returned v' ∧ Own w' w.heap.size w'.heap.size 9 v' (ss hs) ∧ Below w.heap.size w w' := by
 obtain ⟨i0, hi, hz0, hz1, hz2⟩ := info_parts info9t
 have HS : Hid (Sl w v (ss hs)) := h
 have HZ : Hid (∀ s ∈ hs, s.size ≤ 1000000000000) := hz
 obtain ⟨ao, cap, rfl, hcap⟩ := h.form
 rw [ss_len] at *
 clear hz h
 go_enter Tryz.func134, Tryz.ntmps134
 go_wp2
 go_loopw [3, 8] (fun o i wr => ∃ k : Nat, k ≤ hs.length ∧ i = .int .i64 (k : Int) ∧ Own wr w.heap.size wr.heap.size 9 o (ss (hs.take k)) ∧ Below w.heap.size w wr) (fun _ i _ => hs.length - (intOf i).toNat)
 case atStart => exact ⟨0, Nat.zero_le _, rfl, nil9 _ _ _, Below.refl _ _⟩
 case round =>
  obtain ⟨k, hk, rfl, ho, hB⟩ := hrel
  by_cases hlt : k < hs.length
  ·obtain ⟨s, hs0⟩ : ∃ s, hs[k]? = some s := ⟨hs[k], by simp⟩
   have hlt' : (k : Int) < (hs.length : Int) := by omega
   obtain ⟨b, off, rfl, hcell⟩ : ∃ b off, ao = some ⟨b, off, none⟩ ∧ wr.cell? ⟨b, off + k, none⟩ = some (.string s) := by
    obtain ⟨ao', c', he, _, _, hr⟩ := HS.out.later hB
    rw [ss_len] at he hr
    simp only [Value.slice.injEq] at he
    obtain ⟨rfl, _, rfl⟩ := he
    obtain ⟨b, off, he, hc⟩ := hr (by omega)
    exact ⟨b, off, he, by rw [hc k hlt]; simp [ss, hs0]⟩
   have q := Cln.clone_impl wr s (HZ.out s (List.mem_of_getElem? hs0))
   have HT : Hid (hs.take (k + 1) = hs.take k ++ [s]) := by show _ = _; rw [List.take_add_one, hs0]; rfl
   have hln : (hs.take k).length = k := by simp; omega
   have c6 : (ss (hs.take k)).length + 1 ≤ maxLen := by rw [ss_len, hln]; unfold maxLen; omega
   have c7 : ((ss (hs.take k)).length + 1) * 16 ≤ 140737488355328 := by rw [ss_len, hln]; omega
   clear hs0 hln
   go_wp2_with fail
   refine q.mono ?_
   rintro e w1 ⟨rfl, b1⟩
   have B1 : Below w.heap.size w w1 := hB.trans (b1.mono hB.size)
   have o1 : ∀ o, Own (w1.alloc o) w.heap.size (w1.alloc o).heap.size 9 _ (ss (hs.take k)) := fun o => Own.alloc ((ho.later b1 (Nat.le_refl _)).mono (Nat.le_refl _) b1.size) o
   have c8 : ∀ o, w.heap.size ≤ (w1.alloc o).heap.size := fun o => by have := B1.size; simp; omega
   clear q b1 ho hB
   go_wp2_with (at_builtin; go_must (refine wpl_app _ rfl (.tmp 12) (.tmp 15) 24 rfl 9 i0 (.string ⟨#[]⟩) 16 Tryz.underlying24 hi hz0 hz1 hz2 rfl w.heap.size _ (ss (hs.take k)) rfl (o1 _) _ rfl [.string s] (Laws.Sl.one _ _ _) (oneT _) c6 c7 (c8 _) ?_); intro v5 w5 o5 b5 g5)
   have o6 : Own w5 w.heap.size w5.heap.size 9 v5 (ss (hs.take (k + 1))) := by rw [HT.out, ss_app]; exact o5
   have B5 : Below w.heap.size w w5 := (B1.alloc B1.size _).trans b5
   clear o1 o5 b5 g5 c6 c7 c8 B1
   go_roundw
   case rel => exact ⟨k + 1, by omega, by go_num, o6, B5⟩
   case measure => simp [intOf]; omega
  ·have hlt' : ¬ (k : Int) < (hs.length : Int) := by omega
   rw [List.take_of_length_le (show hs.length ≤ k by omega)] at ho
   go_wp2
   go_ret
   exact ⟨_, rfl, ho, hB⟩
def cfold : Nat → List ByteArray → List ByteArray → List ByteArray
 | _, hs, [] => hs
 | n, hs, s :: r => cfold (n + 1) (carry n hs (leafH s)) r
theorem cfold_snoc : ∀ (r : List ByteArray) (n : Nat) (hs : List ByteArray) (s : ByteArray), cfold n hs (r ++ [s]) = carry (n + r.length) (cfold n hs r) (leafH s)
 | [], n, hs, s => rfl
 | t :: r, n, hs, s => by
  rw [List.cons_append, cfold, cfold_snoc r, cfold, List.length_cons, show n + 1 + r.length = n + (r.length + 1) by omega]
theorem goE_yes : ∀ (r : List ByteArray) (n : Nat) (hs : List ByteArray), okE (n : Int) hs = true → n + r.length ≤ 200 → goE (n : Int) hs r = some (((n + r.length : Nat) : Int), cfold n hs r) ∧ okE ((n + r.length : Nat) : Int) (cfold n hs r) = true
 | [], n, hs, ho, _ => ⟨rfl, ho⟩
 | s :: r, n, hs, ho, h => by
  have h1 : (n : Int) ≠ 200 := by simp at h; omega
  have h2 := addE_ok ho h1 s
  rw [Int.toNat_natCast, show (n : Int) + 1 = ((n + 1 : Nat) : Int) by omega] at h2
  have h3 := goE_yes r (n + 1) _ h2 (by simp at h; omega)
  rw [goE, addE_yes ho h1, if_pos rfl]
  simp only [Int.toNat_natCast]
  rw [show (n : Int) + 1 = ((n + 1 : Nat) : Int) by omega, h3.1, List.length_cons, cfold, show n + 1 + r.length = n + (r.length + 1) by omega]
  refine ⟨rfl, ?_⟩
  have := h3.2
  rw [show n + 1 + r.length = n + (r.length + 1) by omega] at this
  exact this
theorem goE_no : ∀ (r : List ByteArray) (n : Nat) (hs : List ByteArray), okE (n : Int) hs = true → 200 < n + r.length → goE (n : Int) hs r = none
 | [], n, hs, ho, h => by
  have := (okE_iff.1 ho).1
  simp at h
  omega
 | s :: r, n, hs, ho, h => by
  by_cases h1 : (n : Int) ≠ 200
  ·have h2 := addE_ok ho h1 s
   rw [Int.toNat_natCast, show (n : Int) + 1 = ((n + 1 : Nat) : Int) by omega] at h2
   rw [goE, addE_yes ho h1, if_pos rfl]
   simp only [Int.toNat_natCast]
   rw [show (n : Int) + 1 = ((n + 1 : Nat) : Int) by omega]
   exact goE_no r (n + 1) _ h2 (by simp at h; omega)
  ·rw [goE, addE_no (fun hh => h1 hh.2), if_neg (by simp)]
theorem allE_yes {r : List ByteArray} {n : Nat} {hs : List ByteArray} (h : okE (n : Int) hs = true) (hn : n + r.length ≤ 200) : allE (n : Int) hs r = (((n + r.length : Nat) : Int), cfold n hs r, true) := by
 unfold allE; rw [(goE_yes r n hs h hn).1]
theorem allE_full {r : List ByteArray} {n : Nat} {hs : List ByteArray} (h : okE (n : Int) hs = true) (hn : 200 < n + r.length) : allE (n : Int) hs r = ((n : Int), hs, false) := by
 unfold allE; rw [goE_no r n hs h hn]
theorem allE_bad {r : List ByteArray} {n : Int} {hs : List ByteArray} (h : okE n hs = false) (hr : 1 ≤ r.length) : allE n hs r = (n, hs, false) := by
 match r, hr with
 | s :: r, _ => unfold allE; rw [goE, addE_no (fun hh => by rw [h] at hh; exact absurd hh.1 (by simp)), if_neg (by simp)]
theorem cfold_at {l : List ByteArray} {n k : Nat} {hs : List ByteArray} {s : ByteArray} (h : l[k]? = some s) : cfold n hs (l.take (k + 1)) = carry (n + k) (cfold n hs (l.take k)) (leafH s) := by
 have hk : k < l.length := (List.getElem?_eq_some_iff.1 h).1
 rw [List.take_add_one, h]
 show cfold n hs (l.take k ++ [s]) = _
 rw [cfold_snoc, List.length_take, Nat.min_eq_left (by omega)]
theorem Sk.lo_le {w : World} {lo gs : Nat} {hs : List ByteArray} (h : Sk w lo gs hs) : lo ≤ w.heap.size := by
 obtain ⟨v, h1, h2, _⟩ := h
 have := (Array.getElem?_eq_some_iff.1 h2).1
 omega
set_option maxRecDepth 1000000 in
theorem carried_impl (w : World) (lo gs n : Nat) (hs : List ByteArray) (h : ByteArray) (hG : ∀ W, Below lo w W → Glob W) (hS : Sk w lo gs hs) (hn : n ≤ 255) (hp : hs.length = popc n) (h32 : ∀ s ∈ hs, s.size = 32) (hh : h.size = 32) :
  Calls Tryz.prog 163 #[.string h, .int .i64 (n : Int), .func (.func 162) #[.pointer (some ⟨gs, 0, none⟩)] #[]] w fun e w' => ∃ (q : List ByteArray) (g : ByteArray), e = .returned (.string g) ∧ Sk w' lo gs q ∧ Below lo w w' ∧ Hid (carry n hs h = q ++ [g]) := by
 have HG : Hid (∀ W, Below lo w W → Glob W) := hG
 go_enter Tryz.func163, Tryz.ntmps163
 go_wp2
 go_loopw [0, 1] (fun a b wr => ∃ (m : Nat) (q : List ByteArray) (g : ByteArray), a = .string g ∧ b = .int .i64 (m : Int) ∧ m ≤ 255 ∧ Hid (q.length = popc m) ∧ Hid (∀ s ∈ q, s.size = 32) ∧ Hid (g.size = 32) ∧ Hid (Sk wr lo gs q) ∧ Hid (carry m q g = carry n hs h) ∧ Hid (Below lo w wr)) (fun _ b _ => (intOf b).toNat)
 case atStart => exact ⟨n, hs, h, rfl, rfl, hn, hp, h32, hh, hS, rfl, Below.refl _ _⟩
 case round =>
  clear hp h32 hh hS hG
  obtain ⟨m, q, g, rfl, rfl, hm, HP, HZ, HH, HS, HC, HB⟩ := hrel
  by_cases h0 : m % 2 = 1
  ·obtain ⟨q', x, rfl⟩ : ∃ q' x, q = q' ++ [x] := by
    have hne : q ≠ [] := by
     intro e
     subst e
     have := HP.out
     rw [popc_step (by omega)] at this
     simp at this
     omega
    exact ⟨q.dropLast, q.getLast hne, (List.dropLast_concat_getLast hne).symm⟩
   have hx32 : x.size = 32 := HZ.out x (by simp)
   have hg32 : g.size = 32 := HH.out
   have HP' : Hid (q'.length = popc (m / 2)) := by
    have := HP.out
    rw [popc_step (by omega), List.length_append] at this
    simp at this
    show _ = _
    omega
   have HZ' : Hid (∀ s ∈ q', s.size = 32) := fun s hs' => HZ.out s (by simp [hs'])
   have HC' : Hid (carry (m / 2) q' (nodeH x g) = carry n hs h) := by
    show _ = _
    rw [← HC.out, carry_odd h0]
   have hq : q'.length ≤ 1000000000 := by have := HP'.out; have := popc_le ⟨m / 2, by omega⟩; simp only at this; omega
   have q1 := pop_some wr lo gs q' x HS.out hq
   have q2 : ∀ W, Below lo w W → _ := fun W hW => node_impl W x g (HG.out W hW) (by omega) (by omega)
   have d1 : (m : Int) % 2 = 1 := by omega
   have d2 : ((m : Int).tmod 2 == 1) = true := by
    rw [beq_iff_eq, Int.tmod_eq_emod_of_nonneg (by omega)]; omega
   have d3 : (m : Int).tmod 2 = 1 := by rw [Int.tmod_eq_emod_of_nonneg (by omega)]; omega
   have d4 : (m : Int).tdiv 2 = ((m / 2 : Nat) : Int) := by rw [Int.tdiv_eq_ediv_of_nonneg (by omega)]; omega
   clear HP HZ HC HS hq hx32 hg32 h0
   go_wp2_with fail
   refine q1.mono ?_
   rintro e w1 ⟨rfl, s1, b1⟩
   have B1 : Below lo w w1 := HB.out.trans b1
   have q2 := q2 w1 B1
   have HS1 : Hid (Sk w1 lo gs q') := s1
   have HB1 : Hid (Below lo w w1) := B1
   clear q1 b1 HB s1 B1
   go_wp2_with fail
   refine q2.mono ?_
   rintro e w2 ⟨rfl, b2⟩
   have HS2 : Hid (Sk w2 lo gs q') := HS1.out.later b2
   have HB2 : Hid (Below lo w w2) := HB1.out.trans (b2.mono HS1.out.lo_le)
   clear q2 b2 HS1 HB1
   go_wp2
   go_roundw
   case rel => exact ⟨m / 2, q', nodeH x g, rfl, by go_num, by omega, HP', HZ', nodeH_size _ _, HS2, HC', HB2⟩
   case measure => simp [intOf]; omega
  ·have HN : Hid (carry n hs h = q ++ [g]) := by
    show _ = _
    rw [← HC.out, carry_even h0]
   have d1 : ¬ (m : Int) % 2 = 1 := by omega
   have d2 : ((m : Int).tmod 2 == 1) = false := by
    rw [beq_eq_false_iff_ne, Int.tmod_eq_emod_of_nonneg (by omega)]; omega
   have d3 : ¬ (m : Int).tmod 2 = 1 := by rw [Int.tmod_eq_emod_of_nonneg (by omega)]; omega
   clear HC h0
   go_wp2
   go_ret
   exact ⟨q, g, rfl, HS.out, HB.out, HN⟩
set_option maxRecDepth 1000000 in
theorem ownE_impl (w : World) (n : Int) (v : Value) (hs : List ByteArray) (h : Sl w v (ss hs)) (hl : hs.length ≤ 1000000000) (hz : ∀ s ∈ hs, s.size ≤ 1000000000000) :
  Calls Tryz.prog 159 #[.agg #[.int .i64 n, v]] w fun e w' => ∃ v', e = .returned (.agg #[.int .i64 n, v']) ∧ Own w' w.heap.size w'.heap.size 9 v' (ss hs) ∧ Below w.heap.size w w' := by
 obtain ⟨W, hW⟩ : ∃ W, W = (w.alloc (.cells #[.int .i64 n, v] 149)).alloc (.cells #[.int .i64 0, .slice none 0 0] 149) := ⟨_, rfl⟩
 have r0 : W.heap[w.heap.size]? = some (.cells (ee n v) 149 (0, 0)) := by rw [hW]; exact heap_alloc2_old w _ _
 have r1 : W.heap[w.heap.size + 1]? = some (.cells (ee 0 (.slice none 0 0)) 149 (0, 0)) := by
  rw [hW]
  have := heap_alloc_new (w.alloc (.cells #[.int .i64 n, v] 149)) (.cells #[.int .i64 0, .slice none 0 0] 149)
  simpa [ee] using this
 have hB : Below w.heap.size w W := by rw [hW]; exact ((Below.refl _ _).alloc (Nat.le_refl _) _).alloc (by simp) _
 have hz2' : W.heap.size = w.heap.size + 2 := by rw [hW]; simp
 have c0 := row_at r0 0
 have c1 := row_at r0 1
 simp [ee] at c0 c1
 have q : ∀ (X : World), Below W.heap.size W X → _ := fun X hX => texts_impl X v hs ((h.later hB).later hX) hl hz
 have HR1 : Hid _ := r1
 have HB : Hid _ := hB
 have HZ : Hid _ := hz2'
 have HW : Hid _ := hW
 obtain ⟨ao, cap, rfl, hcap⟩ := h.form
 rw [ss_len] at *
 clear hW r0 r1 hB hz2' h hz
 go_enter Tryz.func159, Tryz.ntmps159
 go_wp2_with fail
 rw [← HW.out]
 refine wp_region_held_drew (S := fun w' => w'.cell? ⟨w.heap.size, 0, none⟩ = some (.int .i64 n) ∧ w'.cell? ⟨w.heap.size, 1, none⟩ = some (.slice ao hs.length cap)) (by kernel_rfl) ⟨c0, c1⟩ (fun hHeld => ?_)
 (refine wpAnyH_take (i := 0) (v := ?v0x1) rfl (by kernel_rfl) (by kernel_rfl) (by kernel_rfl) (fun _ _ _ h => h) (Or.inl ⟨by rfl, ?hy0x1⟩) (by assumption) ?rest0x1; case hy0x1 => (intro w hSw; (try dsimp only at hSw); go_split_ands; go_simp; (try with_reducible rfl)))
 try simp only [Act.put, pq]
 (refine wpAnyH_take (i := 1) (v := ?v1x2) rfl (by kernel_rfl) (by kernel_rfl) (by kernel_rfl) (fun _ _ _ h => h) (Or.inl ⟨by rfl, ?hy1x2⟩) (by assumption) ?rest1x2; case hy1x2 => (intro w hSw; (try dsimp only at hSw); go_split_ands; go_simp; (try with_reducible rfl)))
 try simp only [Act.put, pq]
 (refine wpAnyH_take (i := 2) (v := ?v2x3) rfl (by kernel_rfl) (by kernel_rfl) (by kernel_rfl) (fun _ _ _ h => h) (Or.inl ⟨by rfl, ?hy2x3⟩) (by assumption) ?rest2x3; case hy2x3 => (intro w hSw; (try dsimp only at hSw); go_split_ands; go_simp; (try with_reducible rfl)))
 try simp only [Act.put, pq]
 (refine wpAnyH_take (i := 3) (v := ?v3x4) rfl (by kernel_rfl) (by kernel_rfl) (by kernel_rfl) (fun _ _ _ h => h) (Or.inl ⟨by rfl, ?hy3x4⟩) (by assumption) ?rest3x4; case hy3x4 => (intro w hSw; (try dsimp only at hSw); go_split_ands; go_simp; (try with_reducible rfl)))
 try simp only [Act.put, pq]
 refine wpAnyH_ready (rs := [4]) (by kernel_rfl) (by simp) ?_
 refine AllReadyH.cons rfl (fun K hK => ?_) AllReadyH.nil
 go_simp
 refine (q _ (Below.drew (Below.refl _ _))).mono ?_
 rintro e w5 ⟨v5, rfl, o5, b5⟩
 refine hK.out _ _ ⟨keepR hHeld.1 b5, keepR hHeld.2 b5⟩ (fun hHeld => ?_)
 clear hK K
 try simp only [Act.put, pq]
 have hz5 : w.heap.size + 2 ≤ w5.heap.size := by have h1 := b5.size; have h2 := HZ.out; have h3 : W.drew.heap.size = W.heap.size := rfl; omega
 have o5 : Own w5 (w.heap.size + 2) w5.heap.size 9 v5 (ss hs) := o5.mono (by have h2 := HZ.out; have h3 : W.drew.heap.size = W.heap.size := rfl; omega) (Nat.le_refl _)
 have J1 : w5.heap[w.heap.size + 1]? = some (.cells (ee 0 (.slice none 0 0)) 149 (0, 0)) := rowKeep (w := W.drew) HR1.out b5
 have JB : Below w.heap.size w w5 := (Below.drew HB.out).trans (b5.mono (by have h2 := HZ.out; have h3 : W.drew.heap.size = W.heap.size := rfl; omega))
 obtain ⟨ao5, L5, cap5, rfl, _, _⟩ := o5.form
 have hne : w.heap.size ≠ w.heap.size + 1 := by omega
 (refine wpAnyH_take (i := 5) (v := ?v5x5) rfl (by kernel_rfl) (by kernel_rfl) (by kernel_rfl) (fun _ _ _ h => h) (Or.inl ⟨by rfl, ?hy5x5⟩) (by assumption) ?rest5x5; case hy5x5 => (intro w hSw; (try dsimp only at hSw); go_split_ands; go_simp; (try with_reducible rfl)))
 try simp only [Act.put, pq]
 refine wpAnyH_ready (rs := [6]) (by kernel_rfl) (by simp) ?_
 refine AllReadyH.cons rfl (fun K hK => ?_) AllReadyH.nil
 rw [if_pos (by rfl)]
 refine wp_store_row 149 _ _ rfl (w.heap.size + 1) (ee n (.slice ao5 L5 cap5)) rfl rfl 149 _ J1 (sizeEd _ _) rfl (oneEd _ (Own.one (by assumption))) ?_
 refine hK.out _ _ ⟨cell_row (by exact hne) hHeld.1, cell_row (by exact hne) hHeld.2⟩ (fun hHeld => ?_)
 clear hK K
 try simp only [Act.put, pq]
 refine wpAnyH_done (by kernel_rfl) ?_ _
 clear hHeld
 go_wp2
 refine bodyPost_ret (v := .agg (ee n (.slice ao5 L5 cap5))) (results_cell_row rfl _ _ (w.heap.size + 1) 149 _ (0, 0) _ rfl (setRow_heap _ _ _ _ _ (0, 0) J1) Tryz.underlying149 rfl (sizeEd n _)) rfl ⟨_, rfl, ?_, below_setRow JB (by omega) _⟩
 exact (o5.setRow _ (by omega)).mono (by omega) (by simp)
end Go.Proofs.YtchonoonclllbaaGreatDoor.Ed
