/- Chapter 7, the landed code: a stack of texts behind a pointer; its methods; copies; what is carried. -/
import Derived.Test.YthbonifpdpknnaaDoorEsA
import Derived.Test.YthbonifpdpknnaaDoorTsC
import Derived.Test.YthbonifpdpknnaaDoorEdO
import Derived.StillTailTactics
namespace Go.Proofs.YthbonifpdpknnaaDoor.Ed
open Go.RowKit Go.Proofs.YthbonifpdpknnaaDoor.Mem Go.Proofs.YthbonifpdpknnaaDoor.Laws Go.Proofs.YthbonifpdpknnaaDoor.Bytes Go.Proofs.YthbonifpdpknnaaDoor.Sha Go.Proofs.YthbonifpdpknnaaDoor.Tr
set_option linter.unusedVariables false
set_option linter.unusedSimpArgs false

/-- block gs holds a stack of the texts hs, which it owns -/
def Sk (w : World) (lo gs : Nat) (hs : List ByteArray) : Prop :=
  ∃ v, lo ≤ gs ∧ w.heap[gs]? = some (.cells #[v] 64 (0, 0)) ∧ Own w lo w.heap.size 9 v (ss hs)
theorem Sk.own_ne {w : World} {lo gs hi : Nat} {v v' : Value} {cs : List Value} (h : w.heap[gs]? = some (.cells #[v'] 64 (0, 0))) (ho : Own w lo hi 9 v cs) : ∀ g, v.ownBlock = some g → g ≠ gs := by
  intro g hg he
  subst he
  obtain ⟨⟨_, hh⟩, _⟩ := ho
  rcases hh with ⟨rfl, _⟩ | ⟨g', cp, cur, rfl, _, hcur, _⟩
  · cases hg
  · simp only [Value.ownBlock, Option.some.injEq] at hg
    rw [hg, h] at hcur
    have := Option.some.inj hcur
    simp only [Obj.cells.injEq] at this
    exact absurd this.2.1 (by decide)
theorem Sk.later {w w' : World} {lo gs : Nat} {hs : List ByteArray} (h : Sk w lo gs hs) (hb : Below w.heap.size w w') : Sk w' lo gs hs := by
  obtain ⟨v, h1, h2, h3⟩ := h
  exact ⟨v, h1, rowKeep h2 hb, (h3.later hb (Nat.le_refl _)).mono (Nat.le_refl _) hb.size⟩
theorem Sk.sl {w : World} {lo gs : Nat} {hs : List ByteArray} (h : Sk w lo gs hs) : ∃ ao L cap, w.cell? ⟨gs, 0, none⟩ = some (.slice ao L cap) ∧ Own w lo w.heap.size 9 (.slice ao L cap) (ss hs) := by
  obtain ⟨v, h1, h2, h3⟩ := h
  obtain ⟨ao, L, cap, rfl, _, _⟩ := Mem.Own.form h3
  exact ⟨ao, L, cap, row_at h2 0, h3⟩

set_option maxRecDepth 1000000 in
set_option maxHeartbeats 2000000 in
theorem push_any (w : World) (lo gs : Nat) (hs : List ByteArray) (x : ByteArray) (h : Sk w lo gs hs) (hl : hs.length ≤ 1000000000) :
    Calls Tryd.prog 42 #[.pointer (some ⟨gs, 0, none⟩), .string x] w fun e w' => e = .returned (.tuple #[]) ∧ Sk w' lo gs (hs ++ [x]) ∧ Below lo w w' := by
  obtain ⟨i0, hi, hz0, hz1, hz2⟩ := info_parts info9t
  obtain ⟨v, hlo, hr, ho⟩ := h
  have hgs := (Array.getElem?_eq_some_iff.1 hr).1
  have hne := Sk.own_ne hr ho
  obtain ⟨ao, L, cap, rfl, _, _⟩ := Mem.Own.form ho
  have k0 : w.cell? ⟨gs, 0, none⟩ = some (.slice ao L cap) := row_at hr 0
  have c6 : (ss hs).length + 1 ≤ maxLen := by rw [ss_len]; unfold maxLen; omega
  have c7 : ((ss hs).length + 1) * 16 ≤ 140737488355328 := by rw [ss_len]; omega
  have c8 : ∀ o, lo ≤ (w.alloc o).heap.size := fun o => by simp; omega
  go_enter Tryd.func42, Tryd.ntmps42
  go_wp2_with (at_builtin; go_must (refine wpl_app _ rfl (.tmp 8) (.tmp 10) 24 rfl 9 i0 (.string ⟨#[]⟩) 16 Tryd.underlying24 hi hz0 hz1 hz2 rfl lo _ _ rfl (ho.alloc _) _ rfl [.string x] (Laws.Sl.one _ _ _) (oneT _) c6 c7 (c8 _) ?_))
  intro v2 w2 o2 b2 g2
  have o2 : Own w2 lo w2.heap.size 9 v2 (ss (hs ++ [x])) := by rw [ss_app]; exact o2
  have r2 : w2.heap[gs]? = some (.cells #[.slice ao L cap] 64 (0, 0)) := (g2.block gs (by simp; omega) (fun h => hne gs h.symm rfl)).trans ((heap_alloc_old w _ hgs).trans hr)
  have n2 := Sk.own_ne r2 o2
  obtain ⟨ao2, L2, cap2, rfl, _, _⟩ := Mem.Own.form o2
  have k2 : w2.cell? ⟨gs, 0, none⟩ = some (.slice ao L cap) := row_at r2 0
  have f2 : w2.frozen? ⟨gs, 0, none⟩ = false := row_free r2 0
  have HS : Hid (Sk (w2.setCell ⟨gs, 0, none⟩ (.slice ao2 L2 cap2)) lo gs (hs ++ [x])) := ⟨_, hlo, row_set r2 0 _, (Own.keepO o2 (fun g hg => Below.heap_setCell _ _ _ _ (n2 g hg))).mono (Nat.le_refl _) (by simp [World.setCell])⟩
  have HB : Hid (Below lo w (w2.setCell ⟨gs, 0, none⟩ (.slice ao2 L2 cap2))) := (((Below.refl lo w).alloc (by omega) _).trans b2).setCell (p := ⟨gs, 0, none⟩) hlo _
  clear r2 n2 o2 b2 g2 hr ho hne k0
  go_wp2
  first
    | (refine bodyPost_ret (results_none rfl _ _ _) rfl ?_)
    | (refine bodyPost_end (results_none rfl _ _ _) rfl ?_)
  exact ⟨rfl, HS.out, HB.out⟩

set_option maxRecDepth 1000000 in
set_option maxHeartbeats 2000000 in
theorem pop_none (w : World) (lo gs : Nat) (h : Sk w lo gs []) :
    Calls Tryd.prog 43 #[.pointer (some ⟨gs, 0, none⟩)] w fun e w' => e = .returned (.tuple #[.string ⟨#[]⟩, .bool false]) ∧ w = w' := by
  obtain ⟨v, hlo, hr, ho⟩ := h
  obtain ⟨ao, cap, rfl⟩ := ho.len
  have k0 : w.cell? ⟨gs, 0, none⟩ = some (.slice ao 0 cap) := row_at hr 0
  clear ho hr
  go_enter Tryd.func43, Tryd.ntmps43
  go_wp2
  go_ret2
  exact ⟨rfl, rfl⟩

set_option maxRecDepth 1000000 in
set_option maxHeartbeats 2000000 in
theorem pop_some (w : World) (lo gs : Nat) (hs : List ByteArray) (x : ByteArray) (h : Sk w lo gs (hs ++ [x])) (hl : hs.length ≤ 1000000000) :
    Calls Tryd.prog 43 #[.pointer (some ⟨gs, 0, none⟩)] w fun e w' => e = .returned (.tuple #[.string x, .bool true]) ∧ Sk w' lo gs hs ∧ Below lo w w' := by
  obtain ⟨v, hlo, hr, ho⟩ := h
  have hne := Sk.own_ne hr ho
  obtain ⟨b, off, cap, L, rfl, hL1, hL2, hcap, c0, s1⟩ := slLast ho.sl
  have hF : Own w lo w.heap.size 9 (.slice (some ⟨b, off, none⟩) (L - 1) cap) (ss hs) := by
    have := ho.front (L - 1) (by rw [ss_len, List.length_append]; simp; omega) (by simp)
    rw [ss_take, show (hs ++ [x]).take (L - 1) = hs by rw [show L - 1 = hs.length by omega]; simp] at this
    exact this
  have k0 : w.cell? ⟨gs, 0, none⟩ = some (.slice (some ⟨b, off, none⟩) L cap) := row_at hr 0
  have f0 : w.frozen? ⟨gs, 0, none⟩ = false := row_free hr 0
  have HS : Hid (Sk ((w.drew).setCell ⟨gs, 0, none⟩ (.slice (some ⟨b, off, none⟩) (L - 1) cap)) lo gs hs) := ⟨_, hlo, row_set (w := w.drew) hr 0 _, (Own.keepO (w := w.drew) hF (fun g hg => Below.heap_setCell _ _ _ _ (hne g hg))).mono (Nat.le_refl _) (by simp [World.setCell])⟩
  have HB : Hid (Below lo w ((w.drew).setCell ⟨gs, 0, none⟩ (.slice (some ⟨b, off, none⟩) (L - 1) cap))) := (Below.drew (Below.refl lo w)).setCell (p := ⟨gs, 0, none⟩) hlo _
  have d0 : ¬ (L : Int) - 1 < 0 := by omega
  have e0 : (1 : Int) ≤ (L : Int) := by omega
  have e1 : (L : Int) - 1 < (L : Int) := by omega
  have e2 : (L : Int) - 1 ≤ (cap : Int) := by omega
  have e3 : (0 : Int) ≤ (L : Int) - 1 := by omega
  have dn : ((L : Int) - 1).toNat = L - 1 := by omega
  have hwr : IntKind.i64.wrap ((L : Int) - 1) = (L : Int) - 1 := by rw [IntKind.wrap_i64]; omega
  clear s1 hF ho hr hne hL1 hL2
  go_enter Tryd.func43, Tryd.ntmps43
  go_wp2_with fail
  refine region_tail 17 (by kernel_rfl) (by kernel_rfl) ?_
  simp only [List.take_succ_cons, List.take_zero, List.drop_succ_cons, List.drop_zero]
  repeat still_step
  refine wpStill_nil ?_
  go_wp2
  go_ret2
  exact ⟨rfl, HS.out, HB.out⟩

set_option maxRecDepth 1000000 in
set_option maxHeartbeats 2000000 in
theorem texts_impl (w : World) (v : Value) (hs : List ByteArray) (h : Sl w v (ss hs)) (hl : hs.length ≤ 1000000000) (hz : ∀ s ∈ hs, s.size ≤ 1000000000000) :
    Calls Tryd.prog 41 #[v] w fun e w' => ∃ v', e = .returned v' ∧ Own w' w.heap.size w'.heap.size 9 v' (ss hs) ∧ Below w.heap.size w w' := by
  obtain ⟨i0, hi, hz0, hz1, hz2⟩ := info_parts info9t
  have HS : Hid (Sl w v (ss hs)) := h
  have HZ : Hid (∀ s ∈ hs, s.size ≤ 1000000000000) := hz
  obtain ⟨ao, cap, rfl, hcap⟩ := h.form
  rw [ss_len] at *
  clear hz h
  go_enter Tryd.func41, Tryd.ntmps41
  go_wp2
  go_loopw [3, 8] (fun o i wr => ∃ k : Nat, k ≤ hs.length ∧ i = .int .i64 (k : Int) ∧ Own wr w.heap.size wr.heap.size 9 o (ss (hs.take k)) ∧ Below w.heap.size w wr) (fun _ i _ => hs.length - (intOf i).toNat)
  case atStart => exact ⟨0, Nat.zero_le _, rfl, nil9 _ _ _, Below.refl _ _⟩
  case round =>
    obtain ⟨k, hk, rfl, ho, hB⟩ := hrel
    by_cases hlt : k < hs.length
    · obtain ⟨s, hs0⟩ : ∃ s, hs[k]? = some s := ⟨hs[k], by simp⟩
      have hlt' : (k : Int) < (hs.length : Int) := by omega
      obtain ⟨b, off, rfl, hcell⟩ : ∃ b off, ao = some ⟨b, off, none⟩ ∧ wr.cell? ⟨b, off + k, none⟩ = some (.string s) := by
        obtain ⟨ao', c', he, _, _, hr⟩ := HS.out.later hB
        rw [ss_len] at he hr
        simp only [Value.slice.injEq] at he
        obtain ⟨rfl, _, rfl⟩ := he
        obtain ⟨b, off, he, hc⟩ := hr (by omega)
        exact ⟨b, off, he, by rw [hc k hlt]; simp [ss, hs0]⟩
      have q := Cln.clone_impl wr s (HZ.out s (List.mem_of_getElem? hs0))
      have HT : Hid (hs.take (k + 1) = hs.take k ++ [s]) := by show _ = _; rw [List.take_add_one, hs0]; rfl
      have hln : (hs.take k).length = k := by simp; omega
      have c6 : (ss (hs.take k)).length + 1 ≤ maxLen := by rw [ss_len, hln]; unfold maxLen; omega
      have c7 : ((ss (hs.take k)).length + 1) * 16 ≤ 140737488355328 := by rw [ss_len, hln]; omega
      clear hs0 hln
      go_wp2_with fail
      refine q.mono ?_
      rintro e w1 ⟨rfl, b1⟩
      have B1 : Below w.heap.size w w1 := hB.trans (b1.mono hB.size)
      have o1 : ∀ o, Own (w1.alloc o) w.heap.size (w1.alloc o).heap.size 9 _ (ss (hs.take k)) := fun o => Own.alloc ((ho.later b1 (Nat.le_refl _)).mono (Nat.le_refl _) b1.size) o
      have c8 : ∀ o, w.heap.size ≤ (w1.alloc o).heap.size := fun o => by have := B1.size; simp; omega
      clear q b1 ho hB
      go_wp2_with (at_builtin; go_must (refine wpl_app _ rfl (.tmp 12) (.tmp 15) 24 rfl 9 i0 (.string ⟨#[]⟩) 16 Tryd.underlying24 hi hz0 hz1 hz2 rfl w.heap.size _ (ss (hs.take k)) rfl (o1 _) _ rfl [.string s] (Laws.Sl.one _ _ _) (oneT _) c6 c7 (c8 _) ?_); intro v5 w5 o5 b5 g5)
      have o6 : Own w5 w.heap.size w5.heap.size 9 v5 (ss (hs.take (k + 1))) := by rw [HT.out, ss_app]; exact o5
      have B5 : Below w.heap.size w w5 := (B1.alloc B1.size _).trans b5
      clear o1 o5 b5 g5 c6 c7 c8 B1
      go_roundw
      case rel => exact ⟨k + 1, by omega, by go_num, o6, B5⟩
      case measure => simp [intOf]; omega
    · have hlt' : ¬ (k : Int) < (hs.length : Int) := by omega
      rw [List.take_of_length_le (show hs.length ≤ k by omega)] at ho
      go_wp2
      go_ret
      exact ⟨_, rfl, ho, hB⟩

end Go.Proofs.YthbonifpdpknnaaDoor.Ed
