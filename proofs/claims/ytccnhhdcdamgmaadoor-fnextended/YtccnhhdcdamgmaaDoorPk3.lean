/- Texts in one: TsC, HfO, LhA, TsD, LhB, TsF, LhG, Gro, Gro2. -/
import Derived.Test.YtccnhhdcdamgmaaDoorPk2
import Derived.Test.YtccnhhdcdamgmaaDoorTr8
import Derived.Test.YtccnhhdcdamgmaaDoorHeO
import Derived.Test.YtccnhhdcdamgmaaDoorLg1
import Derived.Test.YtccnhhdcdamgmaaDoorLg2
import Derived.Test.YtccnhhdcdamgmaaDoorLaws
import Derived.Test.YtccnhhdcdamgmaaDoorRec
import Derived.Test.YtccnhhdcdamgmaaDoorRow2
import Derived.Deep.RegionHeld3
import Derived.Laws.EntriesVeiled
import Derived.Deep.MidRow
/- Chapter 6, the landed code: roots. -/
namespace Go.Proofs.YtccnhhdcdamgmaaDoor.Tr
open Go.RowKit Go.Proofs.YtccnhhdcdamgmaaDoor.Mem Go.Proofs.YtccnhhdcdamgmaaDoor.Laws Go.Proofs.YtccnhhdcdamgmaaDoor.Bytes Go.Proofs.YtccnhhdcdamgmaaDoor.Sha
set_option linter.unusedVariables false
set_option linter.unusedSimpArgs false

theorem keepB {W W' : World} {p : Addr} {x : Value} (h : W.cell? p = some x) (b : Below W.heap.size W W') : W'.cell? p = some x := by
  rw [b.cell (World.block_lt_of_cell? W p h)]; exact h

theorem new_cellT (w : World) (u : Value) (t : TypeId) : (w.alloc (.cells #[u] t)).cell? ⟨w.heap.size, 0, none⟩ = some u := by
  rw [cell_of_row _ w.heap.size 0 #[u] t (0, 0) (heap_alloc_new w _)]
  rfl

set_option maxRecDepth 1000000 in
set_option maxHeartbeats 2000000 in
theorem root1_any : ∀ (N : Nat) (l : List ByteArray), l.length ≤ N → 1 ≤ l.length → l.length ≤ 256 → (∀ s ∈ l, s.size ≤ 10000000000) → ∀ (w : World) (v : Value) (g : Nat), Glob w → Sl w v (ss l) → w.cell? ⟨g, 0, none⟩ = some (.func (.func 74) #[] #[.pointer (some ⟨g, 0, none⟩)]) →
    Calls Tryd.prog 74 #[v, .pointer (some ⟨g, 0, none⟩)] w fun e w' => e = .returned (.string (root l)) ∧ Below w.heap.size w w' := by
  intro N
  induction N with
  | zero => intro l hN h1; omega
  | succ N ih =>
    intro l hN h1 hl hz w v g hG h hc
    by_cases h2 : 2 ≤ l.length
    · have hk0 := half_pos h2
      have hk1 := (half_ok h2).2.1
      have HN : Hid (root l = nodeH (root (l.take (half l.length))) (root (l.drop (half l.length)))) := root_more h2
      have q0 := halves_any w v l h h2 hl
      obtain ⟨ao, cap, rfl, hcap, _⟩ := h
      rw [ss_len] at q0 hcap ⊢
      obtain ⟨k, hkk⟩ : ∃ k, half l.length = k := ⟨_, rfl⟩
      rw [hkk] at hk0 hk1 HN q0
      have q1 : ∀ W v1, Below w.heap.size w W → Sl w v1 (ss (l.take k)) → _ := fun W v1 hW s1 => ih (l.take k) (by rw [List.length_take]; omega) (by rw [List.length_take]; omega) (by rw [List.length_take]; omega) (fun s hs => hz s (List.mem_of_mem_take hs)) W v1 g (hG.later hW) (s1.later hW) (keepB hc hW)
      have q2 : ∀ W v1, Below w.heap.size w W → Sl w v1 (ss (l.drop k)) → _ := fun W v1 hW s1 => ih (l.drop k) (by rw [List.length_drop]; omega) (by rw [List.length_drop]; omega) (by rw [List.length_drop]; omega) (fun s hs => hz s (List.mem_of_mem_drop hs)) W v1 g (hG.later hW) (s1.later hW) (keepB hc hW)
      have x1 := root_size (l.take k)
      have x2 := root_size (l.drop k)
      obtain ⟨x, hx⟩ : ∃ x, root (l.take k) = x := ⟨_, rfl⟩
      obtain ⟨y, hy⟩ : ∃ x, root (l.drop k) = x := ⟨_, rfl⟩
      rw [hx, hy] at HN
      rw [hx] at x1
      rw [hy] at x2
      simp only [hx] at q1
      simp only [hy] at q2
      have q3 : ∀ W, Below w.heap.size w W → _ := fun W hW => node_impl W x y (hG.later hW) (by omega) (by omega)
      have d1 : ((l.length : Int) == 1) = false := by rw [beq_eq_false_iff_ne]; omega
      clear ih hN hx hy hkk hz x1 x2
      go_enter Tryd.func74, Tryd.ntmps74
      go_wp2_with fail
      refine q0.mono ?_
      rintro e w1 ⟨b, off, rfl, s1, s2, b1⟩
      have q1 := fun W hW => q1 W _ hW s1
      have q2 := fun W hW => q2 W _ hW s2
      have hc1 := keepB hc b1
      clear s1 s2 hc q0
      go_wp2_with fail
      refine wp_region_held_drew (S := fun w' => w'.cell? ⟨g, 0, none⟩ = some (.func (.func 74) #[] #[.pointer (some ⟨g, 0, none⟩)])) (by kernel_rfl) hc1 (fun hHeld => ?_)
      (refine wpAnyH_take (i := 0) (v := ?v0x1) rfl (by kernel_rfl) (by kernel_rfl) (by kernel_rfl) (fun _ _ _ h => h) (Or.inl ⟨by rfl, ?hy0x1⟩) (by assumption) ?rest0x1; case hy0x1 => (intro w hSw; (try dsimp only at hSw); go_split_ands; go_simp; (try with_reducible rfl)))
      try simp only [Act.put, List.setIfInBounds_toArray, List.set_cons_zero, List.set_cons_succ, List.getElem_toArray, List.getElem_cons_zero, List.getElem_cons_succ]
      (refine wpAnyH_take (i := 1) (v := ?v1x2) rfl (by kernel_rfl) (by kernel_rfl) (by kernel_rfl) (fun _ _ _ h => h) (Or.inl ⟨by rfl, ?hy1x2⟩) (by assumption) ?rest1x2; case hy1x2 => (intro w hSw; (try dsimp only at hSw); go_split_ands; go_simp; (try with_reducible rfl)))
      try simp only [Act.put, List.setIfInBounds_toArray, List.set_cons_zero, List.set_cons_succ, List.getElem_toArray, List.getElem_cons_zero, List.getElem_cons_succ]
      (refine wpAnyH_take (i := 3) (v := ?v3x3) rfl (by kernel_rfl) (by kernel_rfl) (by kernel_rfl) (fun _ _ _ h => h) (Or.inl ⟨by rfl, ?hy3x3⟩) (by assumption) ?rest3x3; case hy3x3 => (intro w hSw; (try dsimp only at hSw); go_split_ands; go_simp; (try with_reducible rfl)))
      try simp only [Act.put, List.setIfInBounds_toArray, List.set_cons_zero, List.set_cons_succ, List.getElem_toArray, List.getElem_cons_zero, List.getElem_cons_succ]
      (refine wpAnyH_take (i := 4) (v := ?v4x4) rfl (by kernel_rfl) (by kernel_rfl) (by kernel_rfl) (fun _ _ _ h => h) (Or.inl ⟨by rfl, ?hy4x4⟩) (by assumption) ?rest4x4; case hy4x4 => (intro w hSw; (try dsimp only at hSw); go_split_ands; go_simp; (try with_reducible rfl)))
      try simp only [Act.put, List.setIfInBounds_toArray, List.set_cons_zero, List.set_cons_succ, List.getElem_toArray, List.getElem_cons_zero, List.getElem_cons_succ]
      refine wpAnyH_ready (rs := [2]) (by kernel_rfl) (by simp) ?_
      refine AllReadyH.cons rfl (fun K hK => ?_) AllReadyH.nil
      go_simp
      refine (q1 _ (Below.drew b1)).mono ?_
      rintro e w2 ⟨rfl, b2⟩
      refine hK.out _ _ (keepB hHeld b2) (fun hHeld => ?_)
      clear hK K
      try simp only [Act.put, List.setIfInBounds_toArray, List.set_cons_zero, List.set_cons_succ, List.getElem_toArray, List.getElem_cons_zero, List.getElem_cons_succ]
      have B2 : Below w.heap.size w w2 := (Below.drew b1).trans (b2.mono (Below.drew b1).size)
      refine wpAnyH_ready (rs := [5]) (by kernel_rfl) (by simp) ?_
      refine AllReadyH.cons rfl (fun K hK => ?_) AllReadyH.nil
      go_simp
      refine (q2 _ B2).mono ?_
      rintro e w3 ⟨rfl, b3⟩
      refine hK.out _ _ (keepB hHeld b3) (fun hHeld => ?_)
      clear hK K
      try simp only [Act.put, List.setIfInBounds_toArray, List.set_cons_zero, List.set_cons_succ, List.getElem_toArray, List.getElem_cons_zero, List.getElem_cons_succ]
      have B3 : Below w.heap.size w w3 := B2.trans (b3.mono B2.size)
      refine wpAnyH_ready (rs := [6]) (by kernel_rfl) (by simp) ?_
      refine AllReadyH.cons rfl (fun K hK => ?_) AllReadyH.nil
      go_simp
      refine (q3 _ B3).mono ?_
      rintro e w4 ⟨rfl, b4⟩
      refine hK.out _ _ (keepB hHeld b4) (fun hHeld => ?_)
      clear hK K
      try simp only [Act.put, List.setIfInBounds_toArray, List.set_cons_zero, List.set_cons_succ, List.getElem_toArray, List.getElem_cons_zero, List.getElem_cons_succ]
      have B4 : Below w.heap.size w w4 := B3.trans (b4.mono B3.size)
      (refine wpAnyH_take (i := 7) (v := ?v7x5) rfl (by kernel_rfl) (by kernel_rfl) (by kernel_rfl) (fun _ _ _ h => h) (Or.inl ⟨by rfl, ?hy7x5⟩) (by assumption) ?rest7x5; case hy7x5 => (intro w hSw; (try dsimp only at hSw); go_split_ands; go_simp; (try with_reducible rfl)))
      try simp only [Act.put, List.setIfInBounds_toArray, List.set_cons_zero, List.set_cons_succ, List.getElem_toArray, List.getElem_cons_zero, List.getElem_cons_succ]
      refine wpAnyH_done (by kernel_rfl) ?_ _
      clear hHeld
      go_wp2
      go_ret
      exact ⟨by rw [HN.out]; rfl, B4⟩
    · obtain ⟨s, rfl⟩ : ∃ s, l = [s] := by
        match l, h1, h2 with
        | [s], _, _ => exact ⟨s, rfl⟩
        | _ :: _ :: _, _, h2 => exact absurd (by simp) h2
      have HN : Hid (root [s] = leafH s) := root_one s
      have q := leaf_impl w s hG (by have := hz s (by simp); omega)
      obtain ⟨b, off, cap, rfl, hcap⟩ := slForm h (by rw [ss_len]; simp)
      have c0 : w.cell? ⟨b, off, none⟩ = some (.string s) := by
        obtain ⟨ao', c', he, _, _, hr⟩ := h
        simp only [Value.slice.injEq] at he
        obtain ⟨rfl, _, rfl⟩ := he
        obtain ⟨b', off', he', hcell⟩ := hr (by rw [ss_len]; simp)
        simp only [Option.some.injEq, Addr.mk.injEq] at he'
        obtain ⟨rfl, rfl, _⟩ := he'
        have := hcell 0 (by rw [ss_len]; simp)
        simpa [ss] using this
      have e1 : (ss [s]).length = 1 := by rw [ss_len]; rfl
      rw [e1] at hcap ⊢
      clear ih h hc hz h2 e1
      go_enter Tryd.func74, Tryd.ntmps74
      go_wp2_with fail
      refine q.mono ?_
      rintro e w1 ⟨rfl, b1⟩
      go_wp2
      go_ret
      exact ⟨by rw [HN.out]; rfl, b1⟩

set_option maxRecDepth 1000000 in
set_option maxHeartbeats 2000000 in
theorem root_impl (w : World) (v : Value) (l : List ByteArray) (hG : Glob w) (h : Sl w v (ss l)) (hl : l.length ≤ 1000000000000) (hz : ∀ s ∈ l, s.size ≤ 10000000000) :
    Calls Tryd.prog 25 #[v] w fun e w' => e = .returned (.string (rootOf l)) ∧ Below w.heap.size w w' := by
  have h0 := h
  obtain ⟨ao, cap, rfl, hcap, _⟩ := h
  rw [ss_len] at hcap h0 ⊢
  by_cases hn : l.length = 0
  · obtain rfl : l = [] := List.eq_nil_of_length_eq_zero hn
    have HN : Hid (rootOf [] = Plain.txt (digest [])) := by show _ = _; unfold rootOf; rw [if_pos (by simp), root_nil]
    have q := digest_impl w (.slice none 0 0) [] hG (Sl.nil w) (by intro x hx; simp at hx) (by simp)
    clear hz h0
    go_enter Tryd.func25, Tryd.ntmps25
    go_wp2_with fail
    refine q.mono ?_
    rintro e w1 ⟨rfl, b1⟩
    go_wp2
    go_ret
    exact ⟨by rw [HN.out]; rfl, b1⟩
  have d0 : ((l.length : Int) == 0) = false := by rw [beq_eq_false_iff_ne]; omega
  by_cases hb : 200 < l.length
  · have HN : Hid (rootOf l = ⟨#[]⟩) := by show _ = _; unfold rootOf; rw [if_neg (by omega)]
    have d1 : (200 : Int) < (l.length : Int) := by omega
    clear hz h0
    go_enter Tryd.func25, Tryd.ntmps25
    go_wp2
    go_ret
    exact ⟨by rw [HN.out]; rfl, Below.refl _ _⟩
  · have HN : Hid (rootOf l = root l) := by show _ = _; unfold rootOf; rw [if_pos (by omega)]
    have d1 : ¬ (200 : Int) < (l.length : Int) := by omega
    have hB : ∀ (u : Value) (t : TypeId), Below w.heap.size w (w.alloc (.cells #[u] t)) := fun u t => (Below.refl _ _).alloc (Nat.le_refl _) _
    have q : ∀ (t : TypeId), _ := fun t => root1_any l.length l (Nat.le_refl _) (by omega) (by omega) hz (w.alloc (.cells #[.func (.func 74) #[] #[.pointer (some ⟨w.heap.size, 0, none⟩)]] t)) _ w.heap.size (hG.later (hB _ t)) (h0.later (hB _ t)) (new_cellT _ _ _)
    clear h0 hz
    go_enter Tryd.func25, Tryd.ntmps25
    go_wp2_with fail
    refine (q _).mono ?_
    rintro e w1 ⟨rfl, b1⟩
    have B1 : Below w.heap.size w w1 := (hB _ _).trans (b1.mono (hB _ _).size)
    go_wp2
    go_ret
    exact ⟨by rw [HN.out]; rfl, B1⟩

end Go.Proofs.YtccnhhdcdamgmaaDoor.Tr

/- Chapter 10, the landed code: the head of texts. -/
namespace Go.Proofs.YtccnhhdcdamgmaaDoor.He
open Go.RowKit Go.Proofs.YtccnhhdcdamgmaaDoor.Mem Go.Proofs.YtccnhhdcdamgmaaDoor.Laws Go.Proofs.YtccnhhdcdamgmaaDoor.Bytes Go.Proofs.YtccnhhdcdamgmaaDoor.Sha Go.Proofs.YtccnhhdcdamgmaaDoor.Tr
set_option linter.unusedVariables false
set_option linter.unusedSimpArgs false

set_option maxRecDepth 1000000 in
set_option maxHeartbeats 1000000 in
theorem headOf_impl (w : World) (v : Value) (l : List ByteArray) (hG : Glob w) (h : Sl w v (ss l)) (hl : l.length ≤ 1000000000000) (hz : ∀ s ∈ l, s.size ≤ 10000000000) :
    Calls Tryd.prog 16 #[v] w fun e w' => e = .returned (.agg #[.int .i64 (headOf l).n, .string (headOf l).r]) ∧ Below w.heap.size w w' := by
  have HR : Hid ((w.alloc (.cells #[.int .i64 0, .string ⟨#[]⟩] 26)).heap[w.heap.size]? = some (.cells (hc hd0) 26 (0, 0))) := heap_alloc_new w _
  have HB : Hid (Below w.heap.size w (w.alloc (.cells #[.int .i64 0, .string ⟨#[]⟩] 26))) := (Below.refl _ _).alloc (Nat.le_refl _) _
  by_cases h2 : l.length ≤ 200
  · have q := root_impl (w.alloc (.cells #[.int .i64 0, .string ⟨#[]⟩] 26)) v l (hG.later HB.out) (h.later HB.out) (by omega) hz
    rw [show rootOf l = root l from if_pos h2] at q
    obtain ⟨M, hM⟩ : ∃ M, headOf l = M := ⟨_, rfl⟩
    have hM2 : M = ⟨l.length, root l⟩ := by rw [← hM]; unfold headOf; rw [if_pos h2]
    obtain ⟨ao, cap, rfl, hcap, _⟩ := h
    have d2 : ¬ (200 : Int) < (l.length : Int) := by omega
    obtain ⟨x, hx⟩ : ∃ x, root l = x := ⟨_, rfl⟩
    rw [hx] at q hM2
    rw [hM, hM2]
    rw [ss_len] at *
    clear hx hM hM2 hz
    go_enter Tryd.func16, Tryd.ntmps16
    go_wp2_with fail
    refine q.mono ?_
    rintro e w1 ⟨rfl, b1⟩
    have R1 := rowKeep HR.out b1
    have B1 : Below w.heap.size w w1 := HB.out.trans (b1.mono HB.out.size)
    clear q HR b1
    go_wp2_with (refine wpList_store_row rfl 26 _ _ rfl w.heap.size (hc (⟨(l.length : Int), x⟩ : Hd)) rfl rfl 26 _ R1 (sizeH (⟨(l.length : Int), x⟩ : Hd)) rfl (oneH (⟨(l.length : Int), x⟩ : Hd)) ?_)
    exact bodyPost_ret (v := .agg (hc ⟨(l.length : Int), x⟩)) (results_cell_row rfl _ _ w.heap.size 26 _ (0, 0) _ rfl (setRow_heap _ _ _ _ _ (0, 0) R1) Tryd.underlying26 rfl (sizeH _)) rfl ⟨rfl, below_setRow B1 (Nat.le_refl _) _⟩
  · have d2 : (200 : Int) < (l.length : Int) := by omega
    have hM : headOf l = hd0 := by unfold headOf; rw [if_neg h2]
    rw [hM]
    obtain ⟨ao, cap, rfl, hcap, _⟩ := h
    rw [ss_len]
    clear hz hM
    go_enter Tryd.func16, Tryd.ntmps16
    go_wp2_with (refine wpList_store_row rfl 26 _ _ rfl w.heap.size (hc hd0) rfl rfl 26 _ HR.out (sizeH hd0) rfl (oneH hd0) ?_)
    exact bodyPost_ret (v := .agg (hc hd0)) (results_cell_row rfl _ _ w.heap.size 26 _ (0, 0) _ rfl (setRow_heap _ _ _ _ _ (0, 0) HR.out) Tryd.underlying26 rfl (sizeH hd0)) rfl ⟨rfl, below_setRow HB.out (Nat.le_refl _) _⟩

end Go.Proofs.YtccnhhdcdamgmaaDoor.He

/- Chapter 11, the landed code: whether a log is right. -/
namespace Go.Proofs.YtccnhhdcdamgmaaDoor.Lg
open Go.RowKit Go.Proofs.YtccnhhdcdamgmaaDoor.Mem Go.Proofs.YtccnhhdcdamgmaaDoor.Laws Go.Proofs.YtccnhhdcdamgmaaDoor.Bytes Go.Proofs.YtccnhhdcdamgmaaDoor.Sha Go.Proofs.YtccnhhdcdamgmaaDoor.Tr Go.Proofs.YtccnhhdcdamgmaaDoor.He
set_option linter.unusedVariables false
set_option linter.unusedSimpArgs false

theorem Own.none9 (w : World) (lo hi : Nat) : Own w lo hi 9 (.slice none 0 0) (ss []) := ⟨⟨rfl, Or.inl ⟨rfl, rfl⟩⟩, fun g hg => by simp [Value.ownBlock] at hg⟩

set_option maxRecDepth 1000000 in
set_option maxHeartbeats 2000000 in
theorem logok_impl (w : World) (v : Value) (l : List ByteArray) (h : Hd) (hG : Glob w) (hs : Sl w v (ss l)) (hl : l.length ≤ 1000000000000) (hz : ∀ s ∈ l, s.size ≤ 10000000000) :
    Calls Tryd.prog 14 #[.agg #[v, .int .i64 h.n, .string h.r]] w fun e w' => e = .returned (.bool (logOk l h)) ∧ Below w.heap.size w w' := by
  have hs0 := hs
  obtain ⟨ao, cap, rfl, hcap⟩ := hs.form
  rw [ss_len] at *
  obtain ⟨W, hW, r0, HB⟩ : ∃ W, Hid (w.alloc (.cells #[.slice ao l.length cap, .int .i64 h.n, .string h.r] 28) = W) ∧ W.heap[w.heap.size]? = some (.cells (lc (.slice ao l.length cap) h) 28 (0, 0)) ∧ Hid (Below w.heap.size w W) := ⟨_, rfl, heap_alloc_new w _, (Below.refl _ _).alloc (Nat.le_refl _) _⟩
  have c0 : W.cell? ⟨w.heap.size, 0, none⟩ = some (.slice ao l.length cap) := row_at r0 0
  have c1 : W.cell? ⟨w.heap.size, 1, none⟩ = some (.int .i64 h.n) := row_at r0 1
  have c2 : W.cell? ⟨w.heap.size, 2, none⟩ = some (.string h.r) := row_at r0 2
  have q := headOf_impl W.drew _ l (hG.later (Below.drew HB.out)) (hs0.later (Below.drew HB.out)) hl hz
  have e1 : ∀ W', _ := fun W' => eqlH W' h (headOf l)
  have e2 : ∀ W' op x y xs ys, _ := fun W' op x y xs ys => grdH W' op x y xs ys
  have HN : Hid (logOk l h = (decide (l.length ≤ 200) && eqH h (headOf l))) := rfl
  obtain ⟨M, hM⟩ : ∃ M, headOf l = M := ⟨_, rfl⟩
  rw [hM] at q HN
  simp only [hM] at e1
  obtain ⟨B, hB⟩ : ∃ B, eqH h M = B := ⟨_, rfl⟩
  rw [hB] at HN
  simp only [hB] at e1
  obtain ⟨A, hA⟩ : ∃ A, logOk l h = A := ⟨_, rfl⟩
  rw [hA] at HN ⊢
  clear hM hB hA hs hs0 r0 hz hG
  by_cases h2 : l.length ≤ 200
  · have d1 : decide ((l.length : Int) ≤ 200) = true := by simp; omega
    have HN2 : Hid (A = B) := by show _ = _; rw [HN.out]; simp [h2]
    clear HN
    go_enter Tryd.func14, Tryd.ntmps14
    go_wp2_with fail
    rw [hW.out]
    refine wp_region_held_drew (S := fun w' => w'.cell? ⟨w.heap.size, 0, none⟩ = some (.slice ao l.length cap) ∧ w'.cell? ⟨w.heap.size, 1, none⟩ = some (.int .i64 h.n) ∧ w'.cell? ⟨w.heap.size, 2, none⟩ = some (.string h.r)) (by kernel_rfl) ⟨c0, c1, c2⟩ (fun hHeld => ?_)
    (refine wpAnyH_take (i := 0) (v := ?v0x1) rfl (by kernel_rfl) (by kernel_rfl) (by kernel_rfl) (fun _ _ _ h => h) (Or.inl ⟨by rfl, ?hy0x1⟩) (by assumption) ?rest0x1; case hy0x1 => (intro w hSw; (try dsimp only at hSw); go_split_ands; go_simp; (try with_reducible rfl)))
    try simp only [Act.put, List.setIfInBounds_toArray, List.set_cons_zero, List.set_cons_succ, List.getElem_toArray, List.getElem_cons_zero, List.getElem_cons_succ]
    (refine wpAnyH_take (i := 1) (v := ?v1x2) rfl (by kernel_rfl) (by kernel_rfl) (by kernel_rfl) (fun _ _ _ h => h) (Or.inl ⟨by rfl, ?hy1x2⟩) (by assumption) ?rest1x2; case hy1x2 => (intro w hSw; (try dsimp only at hSw); go_split_ands; go_simp; (try with_reducible rfl)))
    try simp only [Act.put, List.setIfInBounds_toArray, List.set_cons_zero, List.set_cons_succ, List.getElem_toArray, List.getElem_cons_zero, List.getElem_cons_succ]
    (refine wpAnyH_take (i := 2) (v := ?v2x3) rfl (by kernel_rfl) (by kernel_rfl) (by kernel_rfl) (fun _ _ _ h => h) (Or.inl ⟨by rfl, ?hy2x3⟩) (by assumption) ?rest2x3; case hy2x3 => (intro w hSw; (try dsimp only at hSw); go_split_ands; go_simp; (try with_reducible rfl)))
    try simp only [Act.put, List.setIfInBounds_toArray, List.set_cons_zero, List.set_cons_succ, List.getElem_toArray, List.getElem_cons_zero, List.getElem_cons_succ]
    (refine wpAnyH_take (i := 3) (v := ?v3x4) rfl (by kernel_rfl) (by kernel_rfl) (by kernel_rfl) (fun _ _ _ h => h) (Or.inl ⟨by rfl, ?hy3x4⟩) (by assumption) ?rest3x4; case hy3x4 => (intro w hSw; (try dsimp only at hSw); go_split_ands; go_simp; (try with_reducible rfl)))
    try simp only [Act.put, List.setIfInBounds_toArray, List.set_cons_zero, List.set_cons_succ, List.getElem_toArray, List.getElem_cons_zero, List.getElem_cons_succ]
    (refine wpAnyH_take (i := 4) (v := ?v4x5) rfl (by kernel_rfl) (by kernel_rfl) (by kernel_rfl) (fun _ _ _ h => h) (Or.inl ⟨by rfl, ?hy4x5⟩) (by assumption) ?rest4x5; case hy4x5 => (intro w hSw; (try dsimp only at hSw); go_split_ands; go_simp; (try with_reducible rfl)))
    try simp only [Act.put, List.setIfInBounds_toArray, List.set_cons_zero, List.set_cons_succ, List.getElem_toArray, List.getElem_cons_zero, List.getElem_cons_succ]
    (refine wpAnyH_take (i := 5) (v := ?v5x6) rfl (by kernel_rfl) (by kernel_rfl) (by kernel_rfl) (fun _ _ _ h => h) (Or.inl ⟨by rfl, ?hy5x6⟩) (by assumption) ?rest5x6; case hy5x6 => (intro w hSw; (try dsimp only at hSw); go_split_ands; go_simp; (try with_reducible rfl)))
    try simp only [Act.put, List.setIfInBounds_toArray, List.set_cons_zero, List.set_cons_succ, List.getElem_toArray, List.getElem_cons_zero, List.getElem_cons_succ]
    (refine wpAnyH_take (i := 6) (v := ?v6x7) rfl (by kernel_rfl) (by kernel_rfl) (by kernel_rfl) (fun _ _ _ h => h) (Or.inl ⟨by rfl, ?hy6x7⟩) (by assumption) ?rest6x7; case hy6x7 => (intro w hSw; (try dsimp only at hSw); go_split_ands; go_simp; (try with_reducible rfl)))
    try simp only [Act.put, List.setIfInBounds_toArray, List.set_cons_zero, List.set_cons_succ, List.getElem_toArray, List.getElem_cons_zero, List.getElem_cons_succ]
    (refine wpAnyH_take (i := 7) (v := ?v7x8) rfl (by kernel_rfl) (by kernel_rfl) (by kernel_rfl) (fun _ _ _ h => h) (Or.inl ⟨by rfl, ?hy7x8⟩) (by assumption) ?rest7x8; case hy7x8 => (intro w hSw; (try dsimp only at hSw); go_split_ands; go_simp; (try with_reducible rfl)))
    try simp only [Act.put, List.setIfInBounds_toArray, List.set_cons_zero, List.set_cons_succ, List.getElem_toArray, List.getElem_cons_zero, List.getElem_cons_succ]
    (refine wpAnyH_take (i := 8) (v := ?v8x9) rfl (by kernel_rfl) (by kernel_rfl) (by kernel_rfl) (fun _ _ _ h => h) (Or.inl ⟨by rfl, ?hy8x9⟩) (by assumption) ?rest8x9; case hy8x9 => (intro w hSw; (try dsimp only at hSw); go_split_ands; go_simp; (try with_reducible rfl)))
    try simp only [Act.put, List.setIfInBounds_toArray, List.set_cons_zero, List.set_cons_succ, List.getElem_toArray, List.getElem_cons_zero, List.getElem_cons_succ]
    refine wpAnyH_ready (rs := [9]) (by kernel_rfl) (by simp) ?_
    refine AllReadyH.cons rfl (fun K hK => ?_) AllReadyH.nil
    go_simp
    refine (q).mono ?_
    rintro e w1 ⟨rfl, b1⟩
    refine hK.out _ _ ?_ (fun hHeld => ?_)
    · exact ⟨keepR (W := W.drew) hHeld.1 b1, keepR (W := W.drew) hHeld.2.1 b1, keepR (W := W.drew) hHeld.2.2 b1⟩
    clear hK K
    try simp only [Act.put, List.setIfInBounds_toArray, List.set_cons_zero, List.set_cons_succ, List.getElem_toArray, List.getElem_cons_zero, List.getElem_cons_succ]
    (refine wpAnyH_take (i := 10) (v := ?v10x10) rfl (by kernel_rfl) (by kernel_rfl) (by kernel_rfl) (fun _ _ _ h => h) (Or.inl ⟨by rfl, ?hy10x10⟩) (by assumption) ?rest10x10; case hy10x10 => (intro w hSw; (try dsimp only at hSw); go_split_ands; go_simp; (try with_reducible rfl)))
    try simp only [Act.put, List.setIfInBounds_toArray, List.set_cons_zero, List.set_cons_succ, List.getElem_toArray, List.getElem_cons_zero, List.getElem_cons_succ]
    (refine wpAnyH_take (i := 11) (v := ?v11x11) rfl (by kernel_rfl) (by kernel_rfl) (by kernel_rfl) (fun _ _ _ h => h) (Or.inl ⟨by rfl, ?hy11x11⟩) (by assumption) ?rest11x11; case hy11x11 => (intro w hSw; (try dsimp only at hSw); go_split_ands; go_simp; (try with_reducible rfl)))
    try simp only [Act.put, List.setIfInBounds_toArray, List.set_cons_zero, List.set_cons_succ, List.getElem_toArray, List.getElem_cons_zero, List.getElem_cons_succ]
    (refine wpAnyH_take (i := 12) (v := ?v12x12) rfl (by kernel_rfl) (by kernel_rfl) (by kernel_rfl) (fun _ _ _ h => h) (Or.inl ⟨by rfl, ?hy12x12⟩) (by assumption) ?rest12x12; case hy12x12 => (intro w hSw; (try dsimp only at hSw); go_split_ands; go_simp; (try with_reducible rfl)))
    try simp only [Act.put, List.setIfInBounds_toArray, List.set_cons_zero, List.set_cons_succ, List.getElem_toArray, List.getElem_cons_zero, List.getElem_cons_succ]
    refine wpAnyH_done (by kernel_rfl) ?_ _
    clear hHeld
    go_wp2
    go_ret
    exact ⟨by rw [HN2.out]; rfl, (Below.drew HB.out).trans (b1.mono HB.out.size)⟩
  · have d1 : decide ((l.length : Int) ≤ 200) = false := by simp; omega
    have HN2 : Hid (A = false) := by show _ = _; rw [HN.out]; simp [h2]
    clear HN q
    go_enter Tryd.func14, Tryd.ntmps14
    go_wp2_with fail
    rw [hW.out]
    refine wp_region_held_drew (S := fun w' => w'.cell? ⟨w.heap.size, 0, none⟩ = some (.slice ao l.length cap) ∧ w'.cell? ⟨w.heap.size, 1, none⟩ = some (.int .i64 h.n) ∧ w'.cell? ⟨w.heap.size, 2, none⟩ = some (.string h.r)) (by kernel_rfl) ⟨c0, c1, c2⟩ (fun hHeld => ?_)
    (refine wpAnyH_take (i := 0) (v := ?v0x13) rfl (by kernel_rfl) (by kernel_rfl) (by kernel_rfl) (fun _ _ _ h => h) (Or.inl ⟨by rfl, ?hy0x13⟩) (by assumption) ?rest0x13; case hy0x13 => (intro w hSw; (try dsimp only at hSw); go_split_ands; go_simp; (try with_reducible rfl)))
    try simp only [Act.put, List.setIfInBounds_toArray, List.set_cons_zero, List.set_cons_succ, List.getElem_toArray, List.getElem_cons_zero, List.getElem_cons_succ]
    (refine wpAnyH_take (i := 1) (v := ?v1x14) rfl (by kernel_rfl) (by kernel_rfl) (by kernel_rfl) (fun _ _ _ h => h) (Or.inl ⟨by rfl, ?hy1x14⟩) (by assumption) ?rest1x14; case hy1x14 => (intro w hSw; (try dsimp only at hSw); go_split_ands; go_simp; (try with_reducible rfl)))
    try simp only [Act.put, List.setIfInBounds_toArray, List.set_cons_zero, List.set_cons_succ, List.getElem_toArray, List.getElem_cons_zero, List.getElem_cons_succ]
    (refine wpAnyH_take (i := 2) (v := ?v2x15) rfl (by kernel_rfl) (by kernel_rfl) (by kernel_rfl) (fun _ _ _ h => h) (Or.inl ⟨by rfl, ?hy2x15⟩) (by assumption) ?rest2x15; case hy2x15 => (intro w hSw; (try dsimp only at hSw); go_split_ands; go_simp; (try with_reducible rfl)))
    try simp only [Act.put, List.setIfInBounds_toArray, List.set_cons_zero, List.set_cons_succ, List.getElem_toArray, List.getElem_cons_zero, List.getElem_cons_succ]
    (refine wpAnyH_take (i := 3) (v := ?v3x16) rfl (by kernel_rfl) (by kernel_rfl) (by kernel_rfl) (fun _ _ _ h => h) (Or.inl ⟨by rfl, ?hy3x16⟩) (by assumption) ?rest3x16; case hy3x16 => (intro w hSw; (try dsimp only at hSw); go_split_ands; go_simp; (try with_reducible rfl)))
    try simp only [Act.put, List.setIfInBounds_toArray, List.set_cons_zero, List.set_cons_succ, List.getElem_toArray, List.getElem_cons_zero, List.getElem_cons_succ]
    (refine wpAnyH_take (i := 4) (v := ?v4x17) rfl (by kernel_rfl) (by kernel_rfl) (by kernel_rfl) (fun _ _ _ h => h) (Or.inl ⟨by rfl, ?hy4x17⟩) (by assumption) ?rest4x17; case hy4x17 => (intro w hSw; (try dsimp only at hSw); go_split_ands; go_simp; (try with_reducible rfl)))
    try simp only [Act.put, List.setIfInBounds_toArray, List.set_cons_zero, List.set_cons_succ, List.getElem_toArray, List.getElem_cons_zero, List.getElem_cons_succ]
    (refine wpAnyH_take (i := 5) (v := undef) rfl (by kernel_rfl) (by kernel_rfl) (by kernel_rfl) (fun _ _ _ h => h) (Or.inr ⟨by rfl, rfl⟩) (by assumption) ?_)
    try simp only [Act.put, List.setIfInBounds_toArray, List.set_cons_zero, List.set_cons_succ, List.getElem_toArray, List.getElem_cons_zero, List.getElem_cons_succ]
    (refine wpAnyH_take (i := 6) (v := undef) rfl (by kernel_rfl) (by kernel_rfl) (by kernel_rfl) (fun _ _ _ h => h) (Or.inr ⟨by rfl, rfl⟩) (by assumption) ?_)
    try simp only [Act.put, List.setIfInBounds_toArray, List.set_cons_zero, List.set_cons_succ, List.getElem_toArray, List.getElem_cons_zero, List.getElem_cons_succ]
    (refine wpAnyH_take (i := 7) (v := undef) rfl (by kernel_rfl) (by kernel_rfl) (by kernel_rfl) (fun _ _ _ h => h) (Or.inr ⟨by rfl, rfl⟩) (by assumption) ?_)
    try simp only [Act.put, List.setIfInBounds_toArray, List.set_cons_zero, List.set_cons_succ, List.getElem_toArray, List.getElem_cons_zero, List.getElem_cons_succ]
    (refine wpAnyH_take (i := 8) (v := undef) rfl (by kernel_rfl) (by kernel_rfl) (by kernel_rfl) (fun _ _ _ h => h) (Or.inr ⟨by rfl, rfl⟩) (by assumption) ?_)
    try simp only [Act.put, List.setIfInBounds_toArray, List.set_cons_zero, List.set_cons_succ, List.getElem_toArray, List.getElem_cons_zero, List.getElem_cons_succ]
    (refine wpAnyH_take (i := 9) (v := undef) rfl (by kernel_rfl) (by kernel_rfl) (by kernel_rfl) (fun _ _ _ h => h) (Or.inr ⟨by rfl, rfl⟩) (by assumption) ?_)
    try simp only [Act.put, List.setIfInBounds_toArray, List.set_cons_zero, List.set_cons_succ, List.getElem_toArray, List.getElem_cons_zero, List.getElem_cons_succ]
    (refine wpAnyH_take (i := 10) (v := undef) rfl (by kernel_rfl) (by kernel_rfl) (by kernel_rfl) (fun _ _ _ h => h) (Or.inr ⟨by rfl, rfl⟩) (by assumption) ?_)
    try simp only [Act.put, List.setIfInBounds_toArray, List.set_cons_zero, List.set_cons_succ, List.getElem_toArray, List.getElem_cons_zero, List.getElem_cons_succ]
    (refine wpAnyH_take (i := 11) (v := ?v11x24) rfl (by kernel_rfl) (by kernel_rfl) (by kernel_rfl) (fun _ _ _ h => h) (Or.inl ⟨by rfl, ?hy11x24⟩) (by assumption) ?rest11x24; case hy11x24 => (intro w hSw; (try dsimp only at hSw); go_split_ands; go_simp; (try with_reducible rfl)))
    try simp only [Act.put, List.setIfInBounds_toArray, List.set_cons_zero, List.set_cons_succ, List.getElem_toArray, List.getElem_cons_zero, List.getElem_cons_succ]
    (refine wpAnyH_take (i := 12) (v := ?v12x25) rfl (by kernel_rfl) (by kernel_rfl) (by kernel_rfl) (fun _ _ _ h => h) (Or.inl ⟨by rfl, ?hy12x25⟩) (by assumption) ?rest12x25; case hy12x25 => (intro w hSw; (try dsimp only at hSw); go_split_ands; go_simp; (try with_reducible rfl)))
    try simp only [Act.put, List.setIfInBounds_toArray, List.set_cons_zero, List.set_cons_succ, List.getElem_toArray, List.getElem_cons_zero, List.getElem_cons_succ]
    refine wpAnyH_done (by kernel_rfl) ?_ _
    clear hHeld
    go_wp2
    go_ret
    exact ⟨by rw [HN2.out]; rfl, Below.drew HB.out⟩


end Go.Proofs.YtccnhhdcdamgmaaDoor.Lg

/- Chapter 6, the landed code: paths. -/
namespace Go.Proofs.YtccnhhdcdamgmaaDoor.Tr
open Go.RowKit Go.Proofs.YtccnhhdcdamgmaaDoor.Mem Go.Proofs.YtccnhhdcdamgmaaDoor.Laws Go.Proofs.YtccnhhdcdamgmaaDoor.Bytes Go.Proofs.YtccnhhdcdamgmaaDoor.Sha
set_option linter.unusedVariables false
set_option linter.unusedSimpArgs false

theorem nilT (w : World) (lo hi : Nat) : Own w lo hi 9 (.slice none 0 0) (ss []) :=
  ⟨World.ownsRow_nil w lo 9 1, fun g hg => by simp [Value.ownBlock] at hg⟩

set_option maxRecDepth 1000000 in
set_option maxHeartbeats 2000000 in
theorem path1_any : ∀ (N : Nat) (l : List ByteArray), l.length ≤ N → 1 ≤ l.length → l.length ≤ 200 → (∀ s ∈ l, s.size ≤ 10000000000) → ∀ (w : World) (v : Value) (g i : Nat), i ≤ 1000000 → Glob w → Sl w v (ss l) → w.cell? ⟨g, 0, none⟩ = some (.func (.func 87) #[] #[.pointer (some ⟨g, 0, none⟩)]) →
    Calls Tryd.prog 87 #[v, .int .i64 (i : Int), .pointer (some ⟨g, 0, none⟩)] w fun e w' => ∃ v', e = .returned v' ∧ Own w' w.heap.size w'.heap.size 9 v' (ss (path l i)) ∧ Below w.heap.size w w' := by
  intro N
  induction N with
  | zero => intro l hN h1; omega
  | succ N ih =>
    intro l hN h1 hl hz w v g i hi' hG h hc
    by_cases h2 : 2 ≤ l.length
    · obtain ⟨i0, hi, hz0, hz1, hz2⟩ := info_parts info9t
      have hk0 := half_pos h2
      have hk1 := (half_ok h2).2.1
      have HL : Hid (∀ j, j < half l.length → path l j = path (l.take (half l.length)) j ++ [root (l.drop (half l.length))]) := fun j hj => path_low h2 hj
      have HH : Hid (∀ j, ¬ j < half l.length → path l j = path (l.drop (half l.length)) (j - half l.length) ++ [root (l.take (half l.length))]) := fun j hj => path_high h2 hj
      have q0 := halves_any w v l h h2 (by omega)
      obtain ⟨ao, cap, rfl, hcap, _⟩ := h
      rw [ss_len] at q0 hcap ⊢
      obtain ⟨k, hkk⟩ : ∃ k, half l.length = k := ⟨_, rfl⟩
      rw [hkk] at hk0 hk1 HL HH q0
      clear hkk
      have l1 : (l.take k).length = k := by rw [List.length_take]; omega
      have l2 : (l.drop k).length = l.length - k := by rw [List.length_drop]
      have d1 : ((l.length : Int) == 1) = false := by rw [beq_eq_false_iff_ne]; omega
      by_cases hik : i < k
      · have HP : Hid (path l i = path (l.take k) i ++ [root (l.drop k)]) := HL.out i hik
        have q1 : ∀ W v1, Below w.heap.size w W → Sl w v1 (ss (l.take k)) → _ := fun W v1 hW s1 => ih (l.take k) (by omega) (by omega) (by omega) (fun s hs => hz s (List.mem_of_mem_take hs)) W v1 g i hi' (hG.later hW) (s1.later hW) (keepB hc hW)
        have hpl := path_len (l.take k) i
        have hdl := dep_le (l.take k).length i
        obtain ⟨x, hx⟩ : ∃ x, root (l.drop k) = x := ⟨_, rfl⟩
        obtain ⟨P, hP⟩ : ∃ x, path (l.take k) i = x := ⟨_, rfl⟩
        rw [hx, hP] at HP
        rw [hP] at hpl
        simp only [hP] at q1
        have q2 : ∀ W v1, Below w.heap.size w W → Sl w v1 (ss (l.drop k)) → _ := fun W v1 hW s1 => root_impl W v1 (l.drop k) (hG.later hW) (s1.later hW) (by omega) (fun s hs => hz s (List.mem_of_mem_drop hs))
        have hro : rootOf (l.drop k) = root (l.drop k) := by unfold rootOf; rw [if_pos (by omega)]
        simp only [hro, hx] at q2
        have hPl : P.length ≤ 1000000 := by omega
        have c6 : (ss P).length + 1 ≤ maxLen := by rw [ss_len]; unfold maxLen; omega
        have c7 : ((ss P).length + 1) * 16 ≤ 140737488355328 := by rw [ss_len]; omega
        have hik' : (i : Int) < (k : Int) := by omega
        clear ih hz hN hx hP HL HH l1 l2 hpl hdl hPl hik hro
        go_enter Tryd.func87, Tryd.ntmps87
        go_wp2_with fail
        refine q0.mono ?_
        rintro e w1 ⟨b, off, rfl, s1, s2, b1⟩
        have q1 := fun W hW => q1 W _ hW s1
        have q2 := fun W hW => q2 W _ hW s2
        have hc1 := keepB hc b1
        clear s1 s2 hc q0
        go_wp2_with fail
        refine (q1 _ b1).mono ?_
        rintro e w2 ⟨v2, rfl, o2, b2⟩
        have B2 : Below w.heap.size w w2 := b1.trans (b2.mono b1.size)
        have HO : Hid (Own w2 w.heap.size w2.heap.size 9 v2 (ss P)) := o2.mono b1.size (Nat.le_refl _)
        clear o2 q1 hc1 b1 b2
        go_wp2_with fail
        refine (q2 _ B2).mono ?_
        rintro e w3 ⟨rfl, b3⟩
        have B3 : Below w.heap.size w w3 := B2.trans (b3.mono B2.size)
        have o3 : Own w3 w.heap.size w3.heap.size 9 v2 (ss P) := (HO.out.later b3 (Nat.le_refl _)).mono (Nat.le_refl _) b3.size
        have hs3 := B3.size
        have c8 : ∀ o, w.heap.size ≤ (w3.alloc o).heap.size := fun o => by simp; omega
        clear HO q2 b3
        go_wp2_with (at_builtin; go_must (refine wpl_app _ rfl (.tmp 23) (.tmp 26) 24 rfl 9 i0 (.string ⟨#[]⟩) 16 Tryd.underlying24 hi hz0 hz1 hz2 rfl w.heap.size _ (ss P) rfl (o3.alloc _) _ rfl [.string x] (Laws.Sl.one _ _ _) (oneT _) c6 c7 (c8 _) ?_); intro v5 w5 o5 b5 g5)
        have B5 : Below w.heap.size w w5 := (B3.alloc B3.size _).trans b5
        go_ret
        refine ⟨_, rfl, ?_, B5⟩
        rw [HP.out, ss_app]
        exact o5
      · have HP : Hid (path l i = path (l.drop k) (i - k) ++ [root (l.take k)]) := HH.out i hik
        have q1 : ∀ W v1, Below w.heap.size w W → Sl w v1 (ss (l.drop k)) → _ := fun W v1 hW s1 => ih (l.drop k) (by omega) (by omega) (by omega) (fun s hs => hz s (List.mem_of_mem_drop hs)) W v1 g (i - k) (by omega) (hG.later hW) (s1.later hW) (keepB hc hW)
        have hpl := path_len (l.drop k) (i - k)
        have hdl := dep_le (l.drop k).length (i - k)
        obtain ⟨x, hx⟩ : ∃ x, root (l.take k) = x := ⟨_, rfl⟩
        obtain ⟨P, hP⟩ : ∃ x, path (l.drop k) (i - k) = x := ⟨_, rfl⟩
        rw [hx, hP] at HP
        rw [hP] at hpl
        simp only [hP] at q1
        have q2 : ∀ W v1, Below w.heap.size w W → Sl w v1 (ss (l.take k)) → _ := fun W v1 hW s1 => root_impl W v1 (l.take k) (hG.later hW) (s1.later hW) (by omega) (fun s hs => hz s (List.mem_of_mem_take hs))
        have hro : rootOf (l.take k) = root (l.take k) := by unfold rootOf; rw [if_pos (by omega)]
        simp only [hro, hx] at q2
        have hPl : P.length ≤ 1000000 := by omega
        have c6 : (ss P).length + 1 ≤ maxLen := by rw [ss_len]; unfold maxLen; omega
        have c7 : ((ss P).length + 1) * 16 ≤ 140737488355328 := by rw [ss_len]; omega
        have hik' : ¬ (i : Int) < (k : Int) := by omega
        have w1' : IntKind.i64.wrap ((i : Int) - (k : Int)) = ((i - k : Nat) : Int) := by rw [IntKind.wrap_i64]; omega
        clear ih hz hN hx hP HL HH l1 l2 hpl hdl hPl hik hro
        go_enter Tryd.func87, Tryd.ntmps87
        go_wp2_with fail
        refine q0.mono ?_
        rintro e w1 ⟨b, off, rfl, s1, s2, b1⟩
        have q1 := fun W hW => q1 W _ hW s2
        have q2 := fun W hW => q2 W _ hW s1
        have hc1 := keepB hc b1
        clear s1 s2 hc q0
        go_wp2_with fail
        refine (q1 _ b1).mono ?_
        rintro e w2 ⟨v2, rfl, o2, b2⟩
        have B2 : Below w.heap.size w w2 := b1.trans (b2.mono b1.size)
        have HO : Hid (Own w2 w.heap.size w2.heap.size 9 v2 (ss P)) := o2.mono b1.size (Nat.le_refl _)
        clear o2 q1 hc1 b1 b2
        go_wp2_with fail
        refine (q2 _ B2).mono ?_
        rintro e w3 ⟨rfl, b3⟩
        have B3 : Below w.heap.size w w3 := B2.trans (b3.mono B2.size)
        have o3 : Own w3 w.heap.size w3.heap.size 9 v2 (ss P) := (HO.out.later b3 (Nat.le_refl _)).mono (Nat.le_refl _) b3.size
        have hs3 := B3.size
        have c8 : ∀ o, w.heap.size ≤ (w3.alloc o).heap.size := fun o => by simp; omega
        clear HO q2 b3
        go_wp2_with (at_builtin; go_must (refine wpl_app _ rfl (.tmp 34) (.tmp 37) 24 rfl 9 i0 (.string ⟨#[]⟩) 16 Tryd.underlying24 hi hz0 hz1 hz2 rfl w.heap.size _ (ss P) rfl (o3.alloc _) _ rfl [.string x] (Laws.Sl.one _ _ _) (oneT _) c6 c7 (c8 _) ?_); intro v5 w5 o5 b5 g5)
        have B5 : Below w.heap.size w w5 := (B3.alloc B3.size _).trans b5
        go_ret
        refine ⟨_, rfl, ?_, B5⟩
        rw [HP.out, ss_app]
        exact o5
    · have HN : Hid (path l i = []) := path_no h2 i
      obtain ⟨ao, cap, rfl, hcap, _⟩ := h
      have d1 : ((l.length : Int) == 1) = true := by rw [beq_iff_eq]; omega
      rw [ss_len] at hcap ⊢
      clear ih hc hz h2
      go_enter Tryd.func87, Tryd.ntmps87
      go_wp2
      go_ret
      exact ⟨_, rfl, by rw [HN.out]; exact nilT _ _ _, Below.refl _ _⟩

set_option maxRecDepth 1000000 in
set_option maxHeartbeats 2000000 in
theorem inPath_impl (w : World) (v : Value) (l : List ByteArray) (i : Int) (hG : Glob w) (h : Sl w v (ss l)) (hl : l.length ≤ 1000000000000) (hz : ∀ s ∈ l, s.size ≤ 10000000000) :
    Calls Tryd.prog 62 #[v, .int .i64 i] w fun e w' => ∃ v', e = .returned v' ∧ Own w' w.heap.size w'.heap.size 9 v' (ss (inPath l i)) ∧ Below w.heap.size w w' := by
  have h0 := h
  obtain ⟨ao, cap, rfl, hcap, _⟩ := h
  rw [ss_len] at hcap h0 ⊢
  by_cases hin : l.length ≤ 200 ∧ 0 ≤ i ∧ i ≤ (l.length : Int) - 1
  · have HN : Hid (inPath l i = path l (i.toNat)) := by show _ = _; unfold inPath; rw [if_pos hin]
    obtain ⟨i1, i2, i3⟩ := hin
    obtain ⟨n, rfl⟩ : ∃ n : Nat, i = (n : Int) := ⟨i.toNat, by omega⟩
    rw [Int.toNat_natCast] at HN
    have d1 : ¬ (n : Int) < 0 := by omega
    have d2 : ¬ (l.length : Int) ≤ (n : Int) := by omega
    have d3 : ¬ (200 : Int) < (l.length : Int) := by omega
    have hB : ∀ (u : Value) (t : TypeId), Below w.heap.size w (w.alloc (.cells #[u] t)) := fun u t => (Below.refl _ _).alloc (Nat.le_refl _) _
    have q : ∀ (t : TypeId), _ := fun t => path1_any l.length l (Nat.le_refl _) (by omega) (by omega) hz (w.alloc (.cells #[.func (.func 87) #[] #[.pointer (some ⟨w.heap.size, 0, none⟩)]] t)) _ w.heap.size n (by omega) (hG.later (hB _ t)) (h0.later (hB _ t)) (new_cellT _ _ _)
    clear h0 hz i1 i2 i3
    go_enter Tryd.func62, Tryd.ntmps62
    go_wp2_with fail
    refine (q _).mono ?_
    rintro e w1 ⟨v1, rfl, o1, b1⟩
    have B1 : Below w.heap.size w w1 := (hB _ _).trans (b1.mono (hB _ _).size)
    have o2 := o1.mono (hB _ _).size (Nat.le_refl _)
    clear o1
    go_wp2
    go_ret
    exact ⟨_, rfl, by rw [HN.out]; exact o2, B1⟩
  · have HN : Hid (inPath l i = []) := by show _ = _; unfold inPath; rw [if_neg hin]
    clear h0 hz
    by_cases e1 : i < 0
    · have HI : Hid (¬ (l.length ≤ 200 ∧ 0 ≤ i ∧ i ≤ (l.length : Int) - 1)) := hin
      clear hin
      go_enter Tryd.func62, Tryd.ntmps62
      go_wp2
      go_ret
      exact ⟨_, rfl, by rw [HN.out]; exact nilT _ _ _, Below.refl _ _⟩
    by_cases e2 : (l.length : Int) ≤ i
    · clear hin
      go_enter Tryd.func62, Tryd.ntmps62
      go_wp2
      go_ret
      exact ⟨_, rfl, by rw [HN.out]; exact nilT _ _ _, Below.refl _ _⟩
    · have e3 : (200 : Int) < (l.length : Int) := by omega
      clear hin
      go_enter Tryd.func62, Tryd.ntmps62
      go_wp2
      go_ret
      exact ⟨_, rfl, by rw [HN.out]; exact nilT _ _ _, Below.refl _ _⟩

end Go.Proofs.YtccnhhdcdamgmaaDoor.Tr

/- Chapter 11, the landed code: what a log proves (each text). -/
namespace Go.Proofs.YtccnhhdcdamgmaaDoor.Lg
open Go.RowKit Go.Proofs.YtccnhhdcdamgmaaDoor.Mem Go.Proofs.YtccnhhdcdamgmaaDoor.Laws Go.Proofs.YtccnhhdcdamgmaaDoor.Bytes Go.Proofs.YtccnhhdcdamgmaaDoor.Sha Go.Proofs.YtccnhhdcdamgmaaDoor.Tr Go.Proofs.YtccnhhdcdamgmaaDoor.He
set_option linter.unusedVariables false
set_option linter.unusedSimpArgs false

set_option maxRecDepth 1000000 in
set_option maxHeartbeats 4000000 in
theorem provein_impl (w : World) (v : Value) (l : List ByteArray) (h : Hd) (i : Int) (hG : Glob w) (hs : Sl w v (ss l)) (hl : l.length ≤ 1000000000) (hz : ∀ s ∈ l, s.size ≤ 10000000000) :
    Calls Tryd.prog 18 #[.agg #[v, .int .i64 h.n, .string h.r], .int .i64 i] w fun e w' => ∃ v', e = .returned (.tuple #[v', .bool (proveIn l h i).2]) ∧ Own w' w.heap.size w'.heap.size 9 v' (ss (proveIn l h i).1) ∧ Below w.heap.size w w' := by
  have HS : Hid (Sl w v (ss l)) := hs
  have HG : Hid (Glob w) := hG
  obtain ⟨ao0, cap0, rfl, hc0⟩ := hs.form
  simp only [ss_len] at *
  clear hs hG
  have B0 : Hid (Below w.heap.size w w) := Below.refl _ _
  obtain ⟨W1, HW1, b1, y1, hS1, r_a1⟩ : ∃ X, Hid ((w.alloc (.cells #[.slice ao0 l.length cap0, .int .i64 h.n, .string h.r] 28)) = X) ∧ Below w.heap.size w X ∧ w.heap.size + 1 ≤ X.heap.size ∧ Hid (X.heap.size = w.heap.size + 1) ∧ Hid (X.heap[w.heap.size]? = some (.cells #[.slice ao0 l.length cap0, .int .i64 h.n, .string h.r] 28 (0, 0))) := ⟨_, rfl, ((Below.refl _ _).alloc (Nat.le_refl _) _), by simp, by show _ = _; simp, (by show _ = _; exact alloc_nth1_0 w _)⟩
  have z1 : w.heap.size ≤ W1.heap.size := b1.size
  have B1 : Hid (Below w.heap.size w W1) := B0.out.trans (b1.mono B0.out.size)
  have c_a1_0 : W1.cell? ⟨w.heap.size, 0, none⟩ = some (.slice ao0 l.length cap0) := row_at r_a1.out 0
  have c_a1_1 : W1.cell? ⟨w.heap.size, 1, none⟩ = some (.int .i64 h.n) := row_at r_a1.out 1
  have c_a1_2 : W1.cell? ⟨w.heap.size, 2, none⟩ = some (.string h.r) := row_at r_a1.out 2
  have hqA : ∀ W v1, Glob W → Sl W v1 (ss l) → _ := fun W v1 h0 h1 => logok_impl W v1 l h h0 h1 (by omega) hz
  obtain ⟨A, hA⟩ : ∃ A, logOk l h = A := ⟨_, rfl⟩
  simp only [hA] at hqA
  have HA : Hid (logOk l h = A) := hA
  clear hA
  obtain ⟨R, hR⟩ : ∃ R, proveIn l h i = R := ⟨_, rfl⟩
  have HR : Hid (proveIn l h i = R) := hR
  rw [hR]
  clear hR
  go_enter Tryd.func18, Tryd.ntmps18
  go_wp2_with fail
  rw [HW1.out]
  refine (hqA W1 _ (HG.out.later B1.out) (HS.out.later B1.out)).mono ?_
  rintro e W2 ⟨rfl, b2⟩
  have z2 : W1.heap.size ≤ W2.heap.size := b2.size
  have B2 : Hid (Below w.heap.size w W2) := B1.out.trans (b2.mono B1.out.size)
  have r_a2 : Hid (W2.heap[w.heap.size]? = some (.cells #[.slice ao0 l.length cap0, .int .i64 h.n, .string h.r] 28 (0, 0))) := rowKeep r_a1.out b2
  have c_a2_0 : W2.cell? ⟨w.heap.size, 0, none⟩ = some (.slice ao0 l.length cap0) := row_at r_a2.out 0
  have c_a2_1 : W2.cell? ⟨w.heap.size, 1, none⟩ = some (.int .i64 h.n) := row_at r_a2.out 1
  have c_a2_2 : W2.cell? ⟨w.heap.size, 2, none⟩ = some (.string h.r) := row_at r_a2.out 2
  clear r_a1 c_a1_0 c_a1_1 c_a1_2
  cases A
  · have hA := HA.out
    have HN : Hid (R = ([], false)) := by show _ = _; rw [← HR.out]; unfold proveIn; rw [if_neg (fun hk => by rw [hA] at hk; exact absurd hk.1 (by simp))]
    go_wp2
    go_ret2
    exact ⟨_, by rw [HN.out]; rfl, by rw [HN.out]; exact Own.none9 _ _ _, B2.out⟩
  · have hl2 := (logOk_yes HA.out).1
    by_cases h1 : i < 0
    · have HN : Hid (R = ([], false)) := by show _ = _; rw [← HR.out]; unfold proveIn; rw [if_neg (fun hk => by have := hk.2.1; omega)]
      go_wp2
      go_ret2
      exact ⟨_, by rw [HN.out]; rfl, by rw [HN.out]; exact Own.none9 _ _ _, B2.out⟩
    · by_cases h2 : (l.length : Int) ≤ i
      · have d2 : decide ((l.length : Int) ≤ i) = true := by simp [h2]
        have HN : Hid (R = ([], false)) := by show _ = _; rw [← HR.out]; unfold proveIn; rw [if_neg (fun hk => by have := hk.2.2; omega)]
        go_wp2
        go_ret2
        exact ⟨_, by rw [HN.out]; rfl, by rw [HN.out]; exact Own.none9 _ _ _, B2.out⟩
      · have d2 : decide ((l.length : Int) ≤ i) = false := by simp; omega
        have HN : Hid (R = (path l i.toNat, true)) := by show _ = _; rw [← HR.out]; unfold proveIn; rw [if_pos ⟨HA.out, by omega, by omega⟩]
        have hM : inPath l i = path l i.toNat := by
          unfold inPath; rw [if_pos (by omega)]
        obtain ⟨L, hL⟩ : ∃ L, path l i.toNat = L := ⟨_, rfl⟩
        have q2 : ∀ W v1, Glob W → Sl W v1 (ss l) → _ := fun W v1 h0 h1 => inPath_impl W v1 l i h0 h1 (by omega) hz
        simp only [hM, hL] at q2
        rw [hL] at HN
        clear hM hL hz
        go_wp2_with fail
        refine (q2 W2 _ (HG.out.later B2.out) (HS.out.later B2.out)).mono ?_
        rintro e W3 ⟨v_p, rfl, o_p3, b3⟩
        obtain ⟨ao_p, L_p, cap_p, rfl, hL_p, hM_p⟩ := o_p3.form
        have o_p3 : Hid (Own W3 W2.heap.size W3.heap.size 9 (.slice ao_p L_p cap_p) (ss L)) := o_p3
        clear hL_p hM_p
        have z3 : W2.heap.size ≤ W3.heap.size := b3.size
        have B3 : Hid (Below w.heap.size w W3) := B2.out.trans (b3.mono B2.out.size)
        have r_a3 : Hid (W3.heap[w.heap.size]? = some (.cells #[.slice ao0 l.length cap0, .int .i64 h.n, .string h.r] 28 (0, 0))) := rowKeep r_a2.out b3
        have c_a3_0 : W3.cell? ⟨w.heap.size, 0, none⟩ = some (.slice ao0 l.length cap0) := row_at r_a3.out 0
        have c_a3_1 : W3.cell? ⟨w.heap.size, 1, none⟩ = some (.int .i64 h.n) := row_at r_a3.out 1
        have c_a3_2 : W3.cell? ⟨w.heap.size, 2, none⟩ = some (.string h.r) := row_at r_a3.out 2
        clear r_a2 c_a2_0 c_a2_1 c_a2_2
        go_wp2
        go_ret2
        exact ⟨_, by rw [HN.out]; rfl, by rw [HN.out]; exact o_p3.out.mono (by omega) (Nat.le_refl _), B3.out⟩

end Go.Proofs.YtccnhhdcdamgmaaDoor.Lg

/- Chapter 6, the landed code: paths of beginnings. -/
namespace Go.Proofs.YtccnhhdcdamgmaaDoor.Tr
open Go.RowKit Go.Proofs.YtccnhhdcdamgmaaDoor.Mem Go.Proofs.YtccnhhdcdamgmaaDoor.Laws Go.Proofs.YtccnhhdcdamgmaaDoor.Bytes Go.Proofs.YtccnhhdcdamgmaaDoor.Sha
set_option linter.unusedVariables false
set_option linter.unusedSimpArgs false

set_option maxRecDepth 1000000 in
set_option maxHeartbeats 2000000 in
theorem grow1_any : ∀ (N : Nat) (l : List ByteArray), l.length ≤ N → 1 ≤ l.length → l.length ≤ 200 → (∀ s ∈ l, s.size ≤ 10000000000) → ∀ (w : World) (v : Value) (g n : Nat) (whole : Bool), 1 ≤ n → n ≤ l.length → Glob w → Sl w v (ss l) → w.cell? ⟨g, 0, none⟩ = some (.func (.func 89) #[] #[.pointer (some ⟨g, 0, none⟩)]) →
    Calls Tryd.prog 89 #[v, .int .i64 (n : Int), .bool whole, .pointer (some ⟨g, 0, none⟩)] w fun e w' => ∃ v', e = .returned v' ∧ Own w' w.heap.size w'.heap.size 9 v' (ss (grow l n whole)) ∧ Below w.heap.size w w' := by
  intro N
  induction N with
  | zero => intro l hN h1; omega
  | succ N ih =>
    intro l hN h1 hl hz w v g n whole hn1 hn2 hG h hc
    by_cases hn : n = l.length
    · subst hn
      cases whole
      · have HN : Hid (grow l l.length false = [root l]) := by show _ = _; rw [grow_all]; rfl
        have q := root_impl w v l hG h (by omega) hz
        have hro : rootOf l = root l := by unfold rootOf; rw [if_pos (by omega)]
        rw [hro] at q
        obtain ⟨ao, cap, rfl, hcap, _⟩ := h
        rw [ss_len] at q ⊢
        obtain ⟨x, hx⟩ : ∃ x, root l = x := ⟨_, rfl⟩
        rw [hx] at q HN
        clear ih hz hc hx hro
        go_enter Tryd.func89, Tryd.ntmps89
        go_wp2_with fail
        refine q.mono ?_
        rintro e w1 ⟨rfl, b1⟩
        have hs1 := b1.size
        have HO : Hid (Own (w1.alloc (.cells #[.string x] 9)) w.heap.size (w1.alloc (.cells #[.string x] 9)).heap.size 9 (.slice (some ⟨w1.heap.size, 0, none⟩) 1 1) (ss [x])) := oneS w1 w.heap.size x hs1
        have HB : Hid (Below w.heap.size w (w1.alloc (.cells #[.string x] 9))) := b1.alloc hs1 _
        go_wp2
        go_ret
        exact ⟨_, rfl, by rw [HN.out]; exact HO.out, HB.out⟩
      · have HN : Hid (grow l l.length true = []) := by show _ = _; rw [grow_all]; rfl
        obtain ⟨ao, cap, rfl, hcap, _⟩ := h
        rw [ss_len]
        clear ih hz hc
        go_enter Tryd.func89, Tryd.ntmps89
        go_wp2
        go_ret
        exact ⟨_, rfl, by rw [HN.out]; exact nilT _ _ _, Below.refl _ _⟩
    · have h2 : 2 ≤ l.length := by omega
      obtain ⟨i0, hi, hz0, hz1, hz2⟩ := info_parts info9t
      have hk0 := half_pos h2
      have hk1 := (half_ok h2).2.1
      have HL : Hid (n ≤ half l.length → grow l n whole = grow (l.take (half l.length)) n whole ++ [root (l.drop (half l.length))]) := fun hj => grow_low h2 hn hj whole
      have HH : Hid (¬ n ≤ half l.length → grow l n whole = grow (l.drop (half l.length)) (n - half l.length) false ++ [root (l.take (half l.length))]) := fun hj => grow_high h2 hn hj whole
      have q0 := halves_any w v l h h2 (by omega)
      obtain ⟨ao, cap, rfl, hcap, _⟩ := h
      rw [ss_len] at q0 hcap ⊢
      obtain ⟨k, hkk⟩ : ∃ k, half l.length = k := ⟨_, rfl⟩
      rw [hkk] at hk0 hk1 HL HH q0
      clear hkk
      have l1 : (l.take k).length = k := by rw [List.length_take]; omega
      have l2 : (l.drop k).length = l.length - k := by rw [List.length_drop]
      have d1 : ((n : Int) == (l.length : Int)) = false := by rw [beq_eq_false_iff_ne]; omega
      by_cases hik : n ≤ k
      · have HP : Hid (grow l n whole = grow (l.take k) n whole ++ [root (l.drop k)]) := HL.out hik
        have q1 : ∀ W v1, Below w.heap.size w W → Sl w v1 (ss (l.take k)) → _ := fun W v1 hW s1 => ih (l.take k) (by omega) (by omega) (by omega) (fun s hs => hz s (List.mem_of_mem_take hs)) W v1 g n whole hn1 (by omega) (hG.later hW) (s1.later hW) (keepB hc hW)
        have hpl := grow_len (l.take k) n whole
        have hdl := gdep_le (l.take k).length n whole
        obtain ⟨x, hx⟩ : ∃ x, root (l.drop k) = x := ⟨_, rfl⟩
        obtain ⟨P, hP⟩ : ∃ x, grow (l.take k) n whole = x := ⟨_, rfl⟩
        rw [hx, hP] at HP
        rw [hP] at hpl
        simp only [hP] at q1
        have q2 : ∀ W v1, Below w.heap.size w W → Sl w v1 (ss (l.drop k)) → _ := fun W v1 hW s1 => root_impl W v1 (l.drop k) (hG.later hW) (s1.later hW) (by omega) (fun s hs => hz s (List.mem_of_mem_drop hs))
        have hro : rootOf (l.drop k) = root (l.drop k) := by unfold rootOf; rw [if_pos (by omega)]
        simp only [hro, hx] at q2
        have hPl : P.length ≤ 1000000 := by omega
        have c6 : (ss P).length + 1 ≤ maxLen := by rw [ss_len]; unfold maxLen; omega
        have c7 : ((ss P).length + 1) * 16 ≤ 140737488355328 := by rw [ss_len]; omega
        have hik' : (n : Int) ≤ (k : Int) := by omega
        clear ih hz hN hx hP HL HH l1 l2 hpl hdl hPl hik hro hn
        go_enter Tryd.func89, Tryd.ntmps89
        go_wp2_with fail
        refine q0.mono ?_
        rintro e w1 ⟨b, off, rfl, s1, s2, b1⟩
        have q1 := fun W hW => q1 W _ hW s1
        have q2 := fun W hW => q2 W _ hW s2
        have hc1 := keepB hc b1
        clear s1 s2 hc q0
        go_wp2_with fail
        refine (q1 _ b1).mono ?_
        rintro e w2 ⟨v2, rfl, o2, b2⟩
        have B2 : Below w.heap.size w w2 := b1.trans (b2.mono b1.size)
        have HO : Hid (Own w2 w.heap.size w2.heap.size 9 v2 (ss P)) := o2.mono b1.size (Nat.le_refl _)
        clear o2 q1 hc1 b1 b2
        go_wp2_with fail
        refine (q2 _ B2).mono ?_
        rintro e w3 ⟨rfl, b3⟩
        have B3 : Below w.heap.size w w3 := B2.trans (b3.mono B2.size)
        have o3 : Own w3 w.heap.size w3.heap.size 9 v2 (ss P) := (HO.out.later b3 (Nat.le_refl _)).mono (Nat.le_refl _) b3.size
        have hs3 := B3.size
        have c8 : ∀ o, w.heap.size ≤ (w3.alloc o).heap.size := fun o => by simp; omega
        clear HO q2 b3
        go_wp2_with (at_builtin; go_must (refine wpl_app _ rfl (.tmp 31) (.tmp 34) 24 rfl 9 i0 (.string ⟨#[]⟩) 16 Tryd.underlying24 hi hz0 hz1 hz2 rfl w.heap.size _ (ss P) rfl (o3.alloc _) _ rfl [.string x] (Laws.Sl.one _ _ _) (oneT _) c6 c7 (c8 _) ?_); intro v5 w5 o5 b5 g5)
        have B5 : Below w.heap.size w w5 := (B3.alloc B3.size _).trans b5
        go_ret
        refine ⟨_, rfl, ?_, B5⟩
        rw [HP.out, ss_app]
        exact o5
      · have HP : Hid (grow l n whole = grow (l.drop k) (n - k) false ++ [root (l.take k)]) := HH.out hik
        have q1 : ∀ W v1, Below w.heap.size w W → Sl w v1 (ss (l.drop k)) → _ := fun W v1 hW s1 => ih (l.drop k) (by omega) (by omega) (by omega) (fun s hs => hz s (List.mem_of_mem_drop hs)) W v1 g (n - k) false (by omega) (by omega) (hG.later hW) (s1.later hW) (keepB hc hW)
        have hpl := grow_len (l.drop k) (n - k) false
        have hdl := gdep_le (l.drop k).length (n - k) false
        obtain ⟨x, hx⟩ : ∃ x, root (l.take k) = x := ⟨_, rfl⟩
        obtain ⟨P, hP⟩ : ∃ x, grow (l.drop k) (n - k) false = x := ⟨_, rfl⟩
        rw [hx, hP] at HP
        rw [hP] at hpl
        simp only [hP] at q1
        have q2 : ∀ W v1, Below w.heap.size w W → Sl w v1 (ss (l.take k)) → _ := fun W v1 hW s1 => root_impl W v1 (l.take k) (hG.later hW) (s1.later hW) (by omega) (fun s hs => hz s (List.mem_of_mem_take hs))
        have hro : rootOf (l.take k) = root (l.take k) := by unfold rootOf; rw [if_pos (by omega)]
        simp only [hro, hx] at q2
        have hPl : P.length ≤ 1000000 := by omega
        have c6 : (ss P).length + 1 ≤ maxLen := by rw [ss_len]; unfold maxLen; omega
        have c7 : ((ss P).length + 1) * 16 ≤ 140737488355328 := by rw [ss_len]; omega
        have hik' : ¬ (n : Int) ≤ (k : Int) := by omega
        have w1' : IntKind.i64.wrap ((n : Int) - (k : Int)) = ((n - k : Nat) : Int) := by rw [IntKind.wrap_i64]; omega
        clear ih hz hN hx hP HL HH l1 l2 hpl hdl hPl hik hro hn
        go_enter Tryd.func89, Tryd.ntmps89
        go_wp2_with fail
        refine q0.mono ?_
        rintro e w1 ⟨b, off, rfl, s1, s2, b1⟩
        have q1 := fun W hW => q1 W _ hW s2
        have q2 := fun W hW => q2 W _ hW s1
        have hc1 := keepB hc b1
        clear s1 s2 hc q0
        go_wp2_with fail
        refine (q1 _ b1).mono ?_
        rintro e w2 ⟨v2, rfl, o2, b2⟩
        have B2 : Below w.heap.size w w2 := b1.trans (b2.mono b1.size)
        have HO : Hid (Own w2 w.heap.size w2.heap.size 9 v2 (ss P)) := o2.mono b1.size (Nat.le_refl _)
        clear o2 q1 hc1 b1 b2
        go_wp2_with fail
        refine (q2 _ B2).mono ?_
        rintro e w3 ⟨rfl, b3⟩
        have B3 : Below w.heap.size w w3 := B2.trans (b3.mono B2.size)
        have o3 : Own w3 w.heap.size w3.heap.size 9 v2 (ss P) := (HO.out.later b3 (Nat.le_refl _)).mono (Nat.le_refl _) b3.size
        have hs3 := B3.size
        have c8 : ∀ o, w.heap.size ≤ (w3.alloc o).heap.size := fun o => by simp; omega
        clear HO q2 b3
        go_wp2_with (at_builtin; go_must (refine wpl_app _ rfl (.tmp 42) (.tmp 45) 24 rfl 9 i0 (.string ⟨#[]⟩) 16 Tryd.underlying24 hi hz0 hz1 hz2 rfl w.heap.size _ (ss P) rfl (o3.alloc _) _ rfl [.string x] (Laws.Sl.one _ _ _) (oneT _) c6 c7 (c8 _) ?_); intro v5 w5 o5 b5 g5)
        have B5 : Below w.heap.size w w5 := (B3.alloc B3.size _).trans b5
        go_ret
        refine ⟨_, rfl, ?_, B5⟩
        rw [HP.out, ss_app]
        exact o5

set_option maxRecDepth 1000000 in
set_option maxHeartbeats 2000000 in
theorem growPath_impl (w : World) (v : Value) (l : List ByteArray) (i : Int) (hG : Glob w) (h : Sl w v (ss l)) (hl : l.length ≤ 1000000000000) (hz : ∀ s ∈ l, s.size ≤ 10000000000) :
    Calls Tryd.prog 65 #[v, .int .i64 i] w fun e w' => ∃ v', e = .returned v' ∧ Own w' w.heap.size w'.heap.size 9 v' (ss (growPath l i)) ∧ Below w.heap.size w w' := by
  have h0 := h
  obtain ⟨ao, cap, rfl, hcap, _⟩ := h
  rw [ss_len] at hcap h0 ⊢
  by_cases hin : l.length ≤ 200 ∧ 1 ≤ i ∧ i ≤ (l.length : Int) - 1
  · have HN : Hid (growPath l i = grow l (i.toNat) true) := by show _ = _; unfold growPath; rw [if_pos hin]
    obtain ⟨i1, i2, i3⟩ := hin
    obtain ⟨n, rfl⟩ : ∃ n : Nat, i = (n : Int) := ⟨i.toNat, by omega⟩
    rw [Int.toNat_natCast] at HN
    have d1 : ¬ (n : Int) < 1 := by omega
    have d2 : ¬ (l.length : Int) ≤ (n : Int) := by omega
    have d3 : ¬ (200 : Int) < (l.length : Int) := by omega
    have hB : ∀ (u : Value) (t : TypeId), Below w.heap.size w (w.alloc (.cells #[u] t)) := fun u t => (Below.refl _ _).alloc (Nat.le_refl _) _
    have q : ∀ (t : TypeId), _ := fun t => grow1_any l.length l (Nat.le_refl _) (by omega) (by omega) hz (w.alloc (.cells #[.func (.func 89) #[] #[.pointer (some ⟨w.heap.size, 0, none⟩)]] t)) _ w.heap.size n true (by omega) (by omega) (hG.later (hB _ t)) (h0.later (hB _ t)) (new_cellT _ _ _)
    clear h0 hz i1 i2 i3
    go_enter Tryd.func65, Tryd.ntmps65
    go_wp2_with fail
    refine (q _).mono ?_
    rintro e w1 ⟨v1, rfl, o1, b1⟩
    have B1 : Below w.heap.size w w1 := (hB _ _).trans (b1.mono (hB _ _).size)
    have o2 := o1.mono (hB _ _).size (Nat.le_refl _)
    clear o1
    go_wp2
    go_ret
    exact ⟨_, rfl, by rw [HN.out]; exact o2, B1⟩
  · have HN : Hid (growPath l i = []) := by show _ = _; unfold growPath; rw [if_neg hin]
    clear h0 hz
    by_cases e1 : i < 1
    · have HI : Hid (¬ (l.length ≤ 200 ∧ 1 ≤ i ∧ i ≤ (l.length : Int) - 1)) := hin
      clear hin
      go_enter Tryd.func65, Tryd.ntmps65
      go_wp2
      go_ret
      exact ⟨_, rfl, by rw [HN.out]; exact nilT _ _ _, Below.refl _ _⟩
    by_cases e2 : (l.length : Int) ≤ i
    · clear hin
      go_enter Tryd.func65, Tryd.ntmps65
      go_wp2
      go_ret
      exact ⟨_, rfl, by rw [HN.out]; exact nilT _ _ _, Below.refl _ _⟩
    · have e3 : (200 : Int) < (l.length : Int) := by omega
      clear hin
      go_enter Tryd.func65, Tryd.ntmps65
      go_wp2
      go_ret
      exact ⟨_, rfl, by rw [HN.out]; exact nilT _ _ _, Below.refl _ _⟩

end Go.Proofs.YtccnhhdcdamgmaaDoor.Tr

/- Chapter 11, the landed code: what a log proves (each beginning). -/
namespace Go.Proofs.YtccnhhdcdamgmaaDoor.Lg
open Go.RowKit Go.Proofs.YtccnhhdcdamgmaaDoor.Mem Go.Proofs.YtccnhhdcdamgmaaDoor.Laws Go.Proofs.YtccnhhdcdamgmaaDoor.Bytes Go.Proofs.YtccnhhdcdamgmaaDoor.Sha Go.Proofs.YtccnhhdcdamgmaaDoor.Tr Go.Proofs.YtccnhhdcdamgmaaDoor.He
set_option linter.unusedVariables false
set_option linter.unusedSimpArgs false

set_option maxRecDepth 1000000 in
set_option maxHeartbeats 4000000 in
theorem provegrown_impl (w : World) (v : Value) (l : List ByteArray) (h : Hd) (i : Int) (hG : Glob w) (hs : Sl w v (ss l)) (hl : l.length ≤ 1000000000) (hz : ∀ s ∈ l, s.size ≤ 10000000000) :
    Calls Tryd.prog 21 #[.agg #[v, .int .i64 h.n, .string h.r], .int .i64 i] w fun e w' => ∃ v', e = .returned (.tuple #[v', .bool (proveGrown l h i).2]) ∧ Own w' w.heap.size w'.heap.size 9 v' (ss (proveGrown l h i).1) ∧ Below w.heap.size w w' := by
  have HS : Hid (Sl w v (ss l)) := hs
  have HG : Hid (Glob w) := hG
  obtain ⟨ao0, cap0, rfl, hc0⟩ := hs.form
  simp only [ss_len] at *
  clear hs hG
  have B0 : Hid (Below w.heap.size w w) := Below.refl _ _
  obtain ⟨W1, HW1, b1, y1, hS1, r_a1⟩ : ∃ X, Hid ((w.alloc (.cells #[.slice ao0 l.length cap0, .int .i64 h.n, .string h.r] 28)) = X) ∧ Below w.heap.size w X ∧ w.heap.size + 1 ≤ X.heap.size ∧ Hid (X.heap.size = w.heap.size + 1) ∧ Hid (X.heap[w.heap.size]? = some (.cells #[.slice ao0 l.length cap0, .int .i64 h.n, .string h.r] 28 (0, 0))) := ⟨_, rfl, ((Below.refl _ _).alloc (Nat.le_refl _) _), by simp, by show _ = _; simp, (by show _ = _; exact alloc_nth1_0 w _)⟩
  have z1 : w.heap.size ≤ W1.heap.size := b1.size
  have B1 : Hid (Below w.heap.size w W1) := B0.out.trans (b1.mono B0.out.size)
  have c_a1_0 : W1.cell? ⟨w.heap.size, 0, none⟩ = some (.slice ao0 l.length cap0) := row_at r_a1.out 0
  have c_a1_1 : W1.cell? ⟨w.heap.size, 1, none⟩ = some (.int .i64 h.n) := row_at r_a1.out 1
  have c_a1_2 : W1.cell? ⟨w.heap.size, 2, none⟩ = some (.string h.r) := row_at r_a1.out 2
  have hqA : ∀ W v1, Glob W → Sl W v1 (ss l) → _ := fun W v1 h0 h1 => logok_impl W v1 l h h0 h1 (by omega) hz
  obtain ⟨A, hA⟩ : ∃ A, logOk l h = A := ⟨_, rfl⟩
  simp only [hA] at hqA
  have HA : Hid (logOk l h = A) := hA
  clear hA
  obtain ⟨R, hR⟩ : ∃ R, proveGrown l h i = R := ⟨_, rfl⟩
  have HR : Hid (proveGrown l h i = R) := hR
  rw [hR]
  clear hR
  go_enter Tryd.func21, Tryd.ntmps21
  go_wp2_with fail
  rw [HW1.out]
  refine (hqA W1 _ (HG.out.later B1.out) (HS.out.later B1.out)).mono ?_
  rintro e W2 ⟨rfl, b2⟩
  have z2 : W1.heap.size ≤ W2.heap.size := b2.size
  have B2 : Hid (Below w.heap.size w W2) := B1.out.trans (b2.mono B1.out.size)
  have r_a2 : Hid (W2.heap[w.heap.size]? = some (.cells #[.slice ao0 l.length cap0, .int .i64 h.n, .string h.r] 28 (0, 0))) := rowKeep r_a1.out b2
  have c_a2_0 : W2.cell? ⟨w.heap.size, 0, none⟩ = some (.slice ao0 l.length cap0) := row_at r_a2.out 0
  have c_a2_1 : W2.cell? ⟨w.heap.size, 1, none⟩ = some (.int .i64 h.n) := row_at r_a2.out 1
  have c_a2_2 : W2.cell? ⟨w.heap.size, 2, none⟩ = some (.string h.r) := row_at r_a2.out 2
  clear r_a1 c_a1_0 c_a1_1 c_a1_2
  cases A
  · have hA := HA.out
    have HN : Hid (R = ([], false)) := by show _ = _; rw [← HR.out]; unfold proveGrown; rw [if_neg (fun hk => by rw [hA] at hk; exact absurd hk.1 (by simp))]
    go_wp2
    go_ret2
    exact ⟨_, by rw [HN.out]; rfl, by rw [HN.out]; exact Own.none9 _ _ _, B2.out⟩
  · have hl2 := (logOk_yes HA.out).1
    by_cases h1 : i < 1
    · have HN : Hid (R = ([], false)) := by show _ = _; rw [← HR.out]; unfold proveGrown; rw [if_neg (fun hk => by have := hk.2.1; omega)]
      go_wp2
      go_ret2
      exact ⟨_, by rw [HN.out]; rfl, by rw [HN.out]; exact Own.none9 _ _ _, B2.out⟩
    · by_cases h2 : (l.length : Int) ≤ i
      · have d2 : decide ((l.length : Int) ≤ i) = true := by simp [h2]
        have HN : Hid (R = ([], false)) := by show _ = _; rw [← HR.out]; unfold proveGrown; rw [if_neg (fun hk => by have := hk.2.2; omega)]
        go_wp2
        go_ret2
        exact ⟨_, by rw [HN.out]; rfl, by rw [HN.out]; exact Own.none9 _ _ _, B2.out⟩
      · have d2 : decide ((l.length : Int) ≤ i) = false := by simp; omega
        have HN : Hid (R = (grow l i.toNat true, true)) := by show _ = _; rw [← HR.out]; unfold proveGrown; rw [if_pos ⟨HA.out, by omega, by omega⟩]
        have hM : growPath l i = grow l i.toNat true := by
          unfold growPath; rw [if_pos (by omega)]
        obtain ⟨L, hL⟩ : ∃ L, grow l i.toNat true = L := ⟨_, rfl⟩
        have q2 : ∀ W v1, Glob W → Sl W v1 (ss l) → _ := fun W v1 h0 h1 => growPath_impl W v1 l i h0 h1 (by omega) hz
        simp only [hM, hL] at q2
        rw [hL] at HN
        clear hM hL hz
        go_wp2_with fail
        refine (q2 W2 _ (HG.out.later B2.out) (HS.out.later B2.out)).mono ?_
        rintro e W3 ⟨v_p, rfl, o_p3, b3⟩
        obtain ⟨ao_p, L_p, cap_p, rfl, hL_p, hM_p⟩ := o_p3.form
        have o_p3 : Hid (Own W3 W2.heap.size W3.heap.size 9 (.slice ao_p L_p cap_p) (ss L)) := o_p3
        clear hL_p hM_p
        have z3 : W2.heap.size ≤ W3.heap.size := b3.size
        have B3 : Hid (Below w.heap.size w W3) := B2.out.trans (b3.mono B2.out.size)
        have r_a3 : Hid (W3.heap[w.heap.size]? = some (.cells #[.slice ao0 l.length cap0, .int .i64 h.n, .string h.r] 28 (0, 0))) := rowKeep r_a2.out b3
        have c_a3_0 : W3.cell? ⟨w.heap.size, 0, none⟩ = some (.slice ao0 l.length cap0) := row_at r_a3.out 0
        have c_a3_1 : W3.cell? ⟨w.heap.size, 1, none⟩ = some (.int .i64 h.n) := row_at r_a3.out 1
        have c_a3_2 : W3.cell? ⟨w.heap.size, 2, none⟩ = some (.string h.r) := row_at r_a3.out 2
        clear r_a2 c_a2_0 c_a2_1 c_a2_2
        go_wp2
        go_ret2
        exact ⟨_, by rw [HN.out]; rfl, by rw [HN.out]; exact o_p3.out.mono (by omega) (Nat.le_refl _), B3.out⟩

end Go.Proofs.YtccnhhdcdamgmaaDoor.Lg

/- Appends to what a call owns: only that row turns; what lies elsewhere stays, whatever its place. -/
namespace Go.Proofs.YtccnhhdcdamgmaaDoor.Mem
open Go.RowKit Go.Proofs.YtccnhhdcdamgmaaDoor.Laws
set_option linter.unusedVariables false
set_option linter.unusedSimpArgs false

theorem Own.gro {w w' : World} {lo hi : Nat} {e : TypeId} {v : Value} {cs : List Value} {r : Option Nat} (h : Own w lo hi e v cs) (g : w.grownBy w' r) (hne : ∀ k, v.ownBlock = some k → r ≠ some k) : Own w' lo hi e v cs := by
  obtain ⟨⟨h1, h2⟩, h3⟩ := h
  refine ⟨⟨h1, ?_⟩, h3⟩
  rcases h2 with h2 | ⟨b, cap, cur, rfl, hb, hg, q⟩
  · exact .inl h2
  · exact .inr ⟨b, cap, cur, rfl, hb, by rw [g.block b (Array.getElem?_eq_some_iff.1 hg).1 (fun e => hne b rfl e.symm)]; exact hg, q⟩
theorem rowGro {w w' : World} {k : Nat} {o : Obj} {r : Option Nat} (h : w.heap[k]? = some o) (g : w.grownBy w' r) (hne : r ≠ some k) : w'.heap[k]? = some o := by
  rw [g.block k (Array.getElem?_eq_some_iff.1 h).1 (fun e => hne e.symm)]
  exact h
theorem cellGro {w w' : World} {p : Addr} {x : Value} {r : Option Nat} (h : w.cell? p = some x) (g : w.grownBy w' r) (hne : r ≠ some p.block) : w'.cell? p = some x := g.cell h (fun e => hne e.symm)
theorem belowGro {w0 w w' : World} {n : Nat} {r : Option Nat} (h : Below n w0 w) (g : w.grownBy w' r) (hn : n ≤ w.heap.size) (hr : ∀ k, r = some k → n ≤ k) : Below n w0 w' := h.grown g hn hr
/-- a row of another type is not what is owned -/
theorem Own.neRow {w : World} {lo hi g : Nat} {e t : TypeId} {v : Value} {cs : List Value} {cs' : Array Value} {fr : Nat × Nat} (h : Own w lo hi e v cs) (hr : w.heap[g]? = some (.cells cs' t fr)) (ht : t ≠ e) : v.ownBlock ≠ some g := by
  intro hv
  obtain ⟨⟨h1, h2⟩, h3⟩ := h
  rcases h2 with ⟨rfl, _⟩ | ⟨g', cap, cur, rfl, hb, hg, r⟩
  · simp [Value.ownBlock] at hv
  · simp [Value.ownBlock] at hv
    subst hv
    rw [hg] at hr
    simp at hr
    exact ht hr.2.1.symm
/-- two that are owned, of unlike types, lie apart -/
theorem Own.neOwn {w : World} {lo hi lo' hi' : Nat} {e e' : TypeId} {v v' : Value} {cs cs' : List Value} (h : Own w lo hi e v cs) (h' : Own w lo' hi' e' v' cs') (he : e' ≠ e) : ∀ k, v'.ownBlock = some k → v.ownBlock ≠ some k := by
  intro k hk
  obtain ⟨⟨h1, h2⟩, h3⟩ := h'
  rcases h2 with ⟨rfl, _⟩ | ⟨g, cap, cur, rfl, hb, hg, r⟩
  · simp [Value.ownBlock] at hk
  · simp [Value.ownBlock] at hk
    subst hk
    exact Own.neRow h hg he
/-- two that are owned in ranges apart -/
theorem Own.neFar {w : World} {lo hi lo' hi' : Nat} {e e' : TypeId} {v v' : Value} {cs cs' : List Value} (h : Own w lo hi e v cs) (h' : Own w lo' hi' e' v' cs') (hd : hi ≤ lo' ∨ hi' ≤ lo) : ∀ k, v'.ownBlock = some k → v.ownBlock ≠ some k := by
  intro k hk hv
  have a1 := h.2 k hv
  have a2 := (h.1.lt k hv).1
  have a3 := h'.2 k hk
  have a4 := (h'.1.lt k hk).1
  omega
theorem Own.low {w : World} {lo hi : Nat} {e : TypeId} {v : Value} {cs : List Value} (h : Own w lo hi e v cs) {n : Nat} (hn : n ≤ lo) : ∀ k, v.ownBlock = some k → n ≤ k := fun k hk => Nat.le_trans hn (h.1.lt k hk).1
theorem Own.neLow {w : World} {lo hi g : Nat} {e : TypeId} {v : Value} {cs : List Value} (h : Own w lo hi e v cs) (hg : g < lo ∨ hi ≤ g) : v.ownBlock ≠ some g := by
  intro hv
  have a1 := h.2 g hv
  have a2 := (h.1.lt g hv).1
  omega
/-- an append as one step of a region that draws its order: only the row turns -/
theorem step_appG {P : Program} {ops : Array Oper} {o : Oper} {a : Act} {w : World} {K : Act → World → Prop} {Q : Exit → Act → World → Prop} {E : Prop}
    (hw : Region.wanted o (yielded ops a.tmps) = true) (s x : Operand) (t : TypeId) (hop : o.op = Op.call { callee := Callee.builtin Builtin.append, args := #[s, x], argTypes := #[t, t] })
    (e : TypeId) (i : TypeInfo) (z : Value) (bytes : Nat) (ht : P.underlying t = some (.slice e)) (hi : P.info? e = some i) (hz : i.zero = some z) (hsize : i.size = 1) (hby : i.bytes = bytes) (hzs : z.cells.size = 1)
    (lo : Nat) (v : Value) (cs : List Value) (hs : a.eval s = v) (hown : Own w lo w.heap.size e v cs) (y : Value) (hx : a.eval x = y) (news : List Value) (hsl : Sl w y news)
    (h1 : ∀ u ∈ news, u.oneCell' = true) (h63 : cs.length + news.length ≤ maxLen) (hb : (cs.length + news.length) * bytes ≤ 140737488355328) (hlo : lo ≤ w.heap.size)
    (hK : ∀ v' w', Own w' lo w'.heap.size e v' (cs ++ news) → w.grownBy w' v.ownBlock → K (a.put o.dst v') w') : if Region.wanted o (yielded ops a.tmps) = true then Oper.wp P o a w K Q else E := by
  rw [if_pos hw]
  obtain ⟨ao, cap, rfl, hc, hn, hr⟩ := hsl
  cases ao with
  | none =>
    have hcap := hn rfl
    have hnil : news = [] := List.eq_nil_of_length_eq_zero (by omega)
    subst hnil
    subst hcap
    have hrun := run_append_owned_none (P := P) (w := w) lo t o.type e i 1 ht hi v cs.length cs hown.1
    unfold Oper.wp
    simp [execOp, hop, resolve, invoke, builtin, hs, hx, hrun, Result.andThen]
    exact hK v w (by simpa using hown) (World.grownBy.refl _ _)
  | some ad =>
    refine wp_append_own w s x t hop lo e i z 1 bytes ht hi hz hsize hby hzs (by decide) v cs.length cs hs hown.1 ad news.length cap news hx (by simp) ?_ h1 h63 hb hlo ?_
    · intro j u hj
      have hlt : j < news.length := (List.getElem?_eq_some_iff.1 hj).1
      obtain ⟨b, off, he, hcell⟩ := hr (by omega)
      obtain rfl := Option.some.inj he
      rw [Addr.add_lit, hcell j hlt, hj]
    · intro v' w' ho hgr _
      exact hK v' w' (Own.of ho) hgr
theorem wpl_strG {P : Program} (w : World) {ops : Array Oper} {rest : List Oper} {o : Oper} {a : Act} {Q : Exit → Act → World → Prop}
    (hg : o.guard = none) (s x : Operand) (t u : TypeId) (hop : o.op = Op.call { callee := Callee.builtin Builtin.append, args := #[s, x], argTypes := #[t, u] })
    (e : TypeId) (i : TypeInfo) (ht : P.underlying t = some (.slice e)) (hu : P.underlying u = some .string) (hi : P.info? e = some i) (hz : i.zero = some (.int .u8 0)) (hsize : i.size = 1) (hby : i.bytes = 1)
    (lo : Nat) (v : Value) (xs : List Int) (hs : a.eval s = v) (hown : Own w lo w.heap.size e v (bs xs)) (y : ByteArray) (hx : a.eval x = .string y)
    (hb : xs.length + y.size ≤ 140737488355328) (hlo : lo ≤ w.heap.size)
    (hK : ∀ v' w', Own w' lo w'.heap.size e v' (bs (xs ++ sb y)) → w.grownBy w' v.ownBlock → wpList P ops Q rest (a.put o.dst v') w') : wpList P ops Q (o :: rest) a w := by
  refine Lib.wpList_append_own_string w hg s x t u hop lo e i ht hu hi hz hsize hby v (bs xs).length (bs xs) hs hown.1 y hx (by rw [bs_len]; unfold maxLen; omega) (by rw [bs_len]; omega) hlo ?_
  intro v' w' ho hgr _
  rw [sb_cells, ← bs_app] at ho
  exact hK v' w' (Own.of ho) hgr

end Go.Proofs.YtccnhhdcdamgmaaDoor.Mem

/- Stores into a part of a row: the row has the new cells then, all else stays. -/
namespace Go.Proofs.YtccnhhdcdamgmaaDoor.Mem
open Go.RowKit Go.Proofs.YtccnhhdcdamgmaaDoor.Laws
set_option linter.unusedVariables false
set_option linter.unusedSimpArgs false

theorem gro_setCells (w : World) (g o : Nat) (vs : List Value) : w.grownBy (w.setCells g o vs) (some g) := by
  have h : ∀ (vs : List Value) (o : Nat) (w : World), (w.setCells g o vs).os = w.os ∧ (w.setCells g o vs).tape = w.tape ∧ (w.setCells g o vs).output = w.output := by
    intro vs
    induction vs with
    | nil => intro o w; exact ⟨rfl, rfl, rfl⟩
    | cons v r ih => intro o w; rw [World.setCells]; exact ih (o + 1) _
  obtain ⟨h1, h2, h3⟩ := h vs o w
  exact ⟨h1, h2, h3, by rw [size_setCells]; exact Nat.le_refl _, fun k _ hk => heap_setCells_other g k (fun e => hk (by rw [e])) vs o w⟩
theorem gro_setRow (w : World) (g : Nat) (cs : Array Value) : w.grownBy (w.setRow g cs) (some g) :=
  ⟨rfl, rfl, rfl, by rw [size_setRow]; exact Nat.le_refl _, fun k _ hk => setRow_other _ _ _ _ (fun e => hk (by rw [e]))⟩
theorem size_same {w w' : World} (h : w.grownBy w' none) : w.heap.size ≤ w'.heap.size := h.size
/-- several cells of a row are stored: the row has them then, all else stays -/
theorem wp_partG {P : Program} {op : Oper} {a : Act} {w : World} {K : Act → World → Prop} {Q : Exit → Act → World → Prop} (ty : TypeId) (x y : Operand) (ho : op.op = .store ty x y)
    (b o : Nat) (cells : Array Value) (hx : a.eval x = .pointer (some ⟨b, o, none⟩)) (hy : a.eval y = .agg cells) (cur : List Value) (t : TypeId) (hr : w.heap[b]? = some (.cells cur.toArray t (0, 0)))
    (hn : o + cells.size ≤ cur.length) (hi : (P.info? ty).map (·.size) = some cells.size) (h1 : cells.all (·.oneCell') = true) (new : List Value) (hnew : putL cur o cells.toList = new)
    (h : ∀ w', w'.heap[b]? = some (.cells new.toArray t (0, 0)) → w.grownBy w' (some b) → K (a.put op.dst undef) w') : op.wp P a w K Q := by
  refine wp_store_mid ty x y ho b o cells hx hy (there_row hr (by simpa using hn)) hi h1 (h _ ?_ (gro_setCells _ _ _ _))
  rw [← hnew]
  exact heap_setCells b cells.toList o w cur t hr
theorem wpl_partG {P : Program} {ops : Array Oper} {rest : List Oper} {op : Oper} {a : Act} {w : World} {Q : Exit → Act → World → Prop} (hgd : op.guard = none) (ty : TypeId) (x y : Operand) (ho : op.op = .store ty x y)
    (b o : Nat) (cells : Array Value) (hx : a.eval x = .pointer (some ⟨b, o, none⟩)) (hy : a.eval y = .agg cells) (cur : List Value) (t : TypeId) (hr : w.heap[b]? = some (.cells cur.toArray t (0, 0)))
    (hn : o + cells.size ≤ cur.length) (hi : (P.info? ty).map (·.size) = some cells.size) (h1 : cells.all (·.oneCell') = true) (new : List Value) (hnew : putL cur o cells.toList = new)
    (h : ∀ w', w'.heap[b]? = some (.cells new.toArray t (0, 0)) → w.grownBy w' (some b) → wpList P ops Q rest (a.put op.dst undef) w') : wpList P ops Q (op :: rest) a w :=
  wpList_plain hgd fun _ hK => wp_partG ty x y ho b o cells hx hy cur t hr hn hi h1 new hnew (fun w' r g => hK _ _ (h w' r g))
/-- one cell of a row is stored -/
theorem wp_oneG {P : Program} {op : Oper} {a : Act} {w : World} {K : Act → World → Prop} {Q : Exit → Act → World → Prop} (ty : TypeId) (x y : Operand) (ho : op.op = .store ty x y)
    (b o : Nat) (v : Value) (hx : a.eval x = .pointer (some ⟨b, o, none⟩)) (hy : a.eval y = v) (cur : List Value) (t : TypeId) (hr : w.heap[b]? = some (.cells cur.toArray t (0, 0)))
    (hn : o + 1 ≤ cur.length) (hi : (P.info? ty).map (·.size) = some 1) (h1 : v.oneCell' = true) (new : List Value) (hnew : putL cur o [v] = new)
    (h : ∀ w', w'.heap[b]? = some (.cells new.toArray t (0, 0)) → w.grownBy w' (some b) → K (a.put op.dst undef) w') : op.wp P a w K Q := by
  have ht := there_row (n := 1) hr (by simpa using hn)
  have hc : v.cells = #[v] := by cases v <;> first | rfl | cases h1
  have hrun : (storeVar ty ⟨b, o, none⟩ v).run P w = .ok () (w.setCells b o [v]) := by
    have := run_storeCells_cells (P := P) b o [v] 0 w (fun j hj => by simpa using (ht j (by simpa using hj)).1) (fun j hj => by simpa using (ht j (by simpa using hj)).2) (fun u hu => by simp at hu; subst hu; exact h1)
    cases hq : P.info? ty with
    | none => simp [hq] at hi
    | some i =>
      have hs : i.size = 1 := by simpa [hq] using hi
      simp only [Nat.add_zero] at this
      simp [storeVar, sizeOf, typeInfo, hq, hc, hs, this]
  have hK := h (w.setCells b o [v]) (by rw [← hnew]; exact heap_setCells b [v] o w cur t hr) (gro_setCells _ _ _ _)
  unfold Oper.wp execOp
  simp only [ho, hx, hy, Instr.storeAt, Instr.sureAddr, Sem.run_bind, Sem.run_pure, Result.andThen_ok, hrun]
  exact hK
theorem wpl_oneG {P : Program} {ops : Array Oper} {rest : List Oper} {op : Oper} {a : Act} {w : World} {Q : Exit → Act → World → Prop} (hgd : op.guard = none) (ty : TypeId) (x y : Operand) (ho : op.op = .store ty x y)
    (b o : Nat) (v : Value) (hx : a.eval x = .pointer (some ⟨b, o, none⟩)) (hy : a.eval y = v) (cur : List Value) (t : TypeId) (hr : w.heap[b]? = some (.cells cur.toArray t (0, 0)))
    (hn : o + 1 ≤ cur.length) (hi : (P.info? ty).map (·.size) = some 1) (h1 : v.oneCell' = true) (new : List Value) (hnew : putL cur o [v] = new)
    (h : ∀ w', w'.heap[b]? = some (.cells new.toArray t (0, 0)) → w.grownBy w' (some b) → wpList P ops Q rest (a.put op.dst undef) w') : wpList P ops Q (op :: rest) a w :=
  wpList_plain hgd fun _ hK => wp_oneG ty x y ho b o v hx hy cur t hr hn hi h1 new hnew (fun w' r g => hK _ _ (h w' r g))

end Go.Proofs.YtccnhhdcdamgmaaDoor.Mem
