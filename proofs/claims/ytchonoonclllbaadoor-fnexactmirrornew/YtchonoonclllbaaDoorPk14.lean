/- Texts in one: TsC, HfO, LhA, LhN, EdO. -/
import Derived.Test.YtchonoonclllbaaDoorPk13
import Derived.Test.YtchonoonclllbaaDoorPk9
import Derived.Test.YtchonoonclllbaaDoorPk10
import Derived.Test.YtchonoonclllbaaDoorPk6
import Derived.Test.YtchonoonclllbaaDoorPk5
import Derived.Test.YtchonoonclllbaaDoorPk4
import Derived.Deep.RegionHeld3
import Derived.Laws.EntriesVeiled
import Derived.Deep.MidRow
namespace Go.Proofs.YtchonoonclllbaaDoor.Tr
open Go.RowKit Go.Proofs.YtchonoonclllbaaDoor.Mem Go.Proofs.YtchonoonclllbaaDoor.Laws Go.Proofs.YtchonoonclllbaaDoor.Bytes Go.Proofs.YtchonoonclllbaaDoor.Sha
set_option linter.unusedVariables false
set_option linter.unusedSimpArgs false
theorem keepB {W W' : World} {p : Addr} {x : Value} (h : W.cell? p = some x) (b : Below W.heap.size W W') : W'.cell? p = some x := by
 rw [b.cell (World.block_lt_of_cell? W p h)]; exact h
theorem new_cellT (w : World) (u : Value) (t : TypeId) : (w.alloc (.cells #[u] t)).cell? ⟨w.heap.size, 0, none⟩ = some u := by
 rw [cell_of_row _ w.heap.size 0 #[u] t (0, 0) (heap_alloc_new w _)]
 rfl
set_option maxRecDepth 1000000 in
set_option maxHeartbeats 2000000 in
theorem root1_any : ∀ (N : Nat) (l : List ByteArray), l.length ≤ N → 1 ≤ l.length → l.length ≤ 256 → (∀ s ∈ l, s.size ≤ 10000000000) → ∀ (w : World) (v : Value) (g : Nat), Glob w → Sl w v (ss l) → w.cell? ⟨g, 0, none⟩ = some (.func (.func 35) #[] #[.pointer (some ⟨g, 0, none⟩)]) →
  Calls Tryd.prog 35 #[v, .pointer (some ⟨g, 0, none⟩)] w fun e w' => e = .returned (.string (root l)) ∧ Below w.heap.size w w' := by
 intro N
 induction N with
 | zero => intro l hN h1; omega
 | succ N ih =>
  intro l hN h1 hl hz w v g hG h hc
  by_cases h2 : 2 ≤ l.length
  ·
   have hk0 := half_pos h2
   have hk1 := (half_ok h2).2.1
   have HN : Hid (root l = nodeH (root (l.take (half l.length))) (root (l.drop (half l.length)))) := root_more h2
   have q0 := halves_any w v l h h2 hl
   obtain ⟨ao, cap, rfl, hcap, _⟩ := h
   rw [ss_len] at q0 hcap ⊢
   obtain ⟨k, hkk⟩ : ∃ k, half l.length = k := ⟨_, rfl⟩
   rw [hkk] at hk0 hk1 HN q0
   have q1 : ∀ W v1, Below w.heap.size w W → Sl w v1 (ss (l.take k)) → _ := fun W v1 hW s1 => ih (l.take k) (by rw [List.length_take]; omega) (by rw [List.length_take]; omega) (by rw [List.length_take]; omega) (fun s hs => hz s (List.mem_of_mem_take hs)) W v1 g (hG.later hW) (s1.later hW) (keepB hc hW)
   have q2 : ∀ W v1, Below w.heap.size w W → Sl w v1 (ss (l.drop k)) → _ := fun W v1 hW s1 => ih (l.drop k) (by rw [List.length_drop]; omega) (by rw [List.length_drop]; omega) (by rw [List.length_drop]; omega) (fun s hs => hz s (List.mem_of_mem_drop hs)) W v1 g (hG.later hW) (s1.later hW) (keepB hc hW)
   have x1 := root_size (l.take k)
   have x2 := root_size (l.drop k)
   obtain ⟨x, hx⟩ : ∃ x, root (l.take k) = x := ⟨_, rfl⟩
   obtain ⟨y, hy⟩ : ∃ x, root (l.drop k) = x := ⟨_, rfl⟩
   rw [hx, hy] at HN
   rw [hx] at x1
   rw [hy] at x2
   simp only [hx] at q1
   simp only [hy] at q2
   have q3 : ∀ W, Below w.heap.size w W → _ := fun W hW => node_impl W x y (hG.later hW) (by omega) (by omega)
   have d1 : ((l.length : Int) == 1) = false := by rw [beq_eq_false_iff_ne]; omega
   clear ih hN hx hy hkk hz x1 x2
   go_enter Tryd.func35, Tryd.ntmps35
   go_wp2_with fail
   refine q0.mono ?_
   rintro e w1 ⟨b, off, rfl, s1, s2, b1⟩
   have q1 := fun W hW => q1 W _ hW s1
   have q2 := fun W hW => q2 W _ hW s2
   have hc1 := keepB hc b1
   clear s1 s2 hc q0
   go_wp2_with fail
   refine wp_region_held_drew (S := fun w' => w'.cell? ⟨g, 0, none⟩ = some (.func (.func 35) #[] #[.pointer (some ⟨g, 0, none⟩)])) (by kernel_rfl) hc1 (fun hHeld => ?_)
   (refine wpAnyH_take (i := 0) (v := ?v0x1) rfl (by kernel_rfl) (by kernel_rfl) (by kernel_rfl) (fun _ _ _ h => h) (Or.inl ⟨by rfl, ?hy0x1⟩) (by assumption) ?rest0x1; case hy0x1 => (intro w hSw; (try dsimp only at hSw); go_split_ands; go_simp; (try with_reducible rfl)))
   try simp only [Act.put, pu1, pu2, pu3, pu4, pu5, pu6]
   (refine wpAnyH_take (i := 1) (v := ?v1x2) rfl (by kernel_rfl) (by kernel_rfl) (by kernel_rfl) (fun _ _ _ h => h) (Or.inl ⟨by rfl, ?hy1x2⟩) (by assumption) ?rest1x2; case hy1x2 => (intro w hSw; (try dsimp only at hSw); go_split_ands; go_simp; (try with_reducible rfl)))
   try simp only [Act.put, pu1, pu2, pu3, pu4, pu5, pu6]
   (refine wpAnyH_take (i := 3) (v := ?v3x3) rfl (by kernel_rfl) (by kernel_rfl) (by kernel_rfl) (fun _ _ _ h => h) (Or.inl ⟨by rfl, ?hy3x3⟩) (by assumption) ?rest3x3; case hy3x3 => (intro w hSw; (try dsimp only at hSw); go_split_ands; go_simp; (try with_reducible rfl)))
   try simp only [Act.put, pu1, pu2, pu3, pu4, pu5, pu6]
   (refine wpAnyH_take (i := 4) (v := ?v4x4) rfl (by kernel_rfl) (by kernel_rfl) (by kernel_rfl) (fun _ _ _ h => h) (Or.inl ⟨by rfl, ?hy4x4⟩) (by assumption) ?rest4x4; case hy4x4 => (intro w hSw; (try dsimp only at hSw); go_split_ands; go_simp; (try with_reducible rfl)))
   try simp only [Act.put, pu1, pu2, pu3, pu4, pu5, pu6]
   refine wpAnyH_ready (rs := [2]) (by kernel_rfl) (by simp) ?_
   refine AllReadyH.cons rfl (fun K hK => ?_) AllReadyH.nil
   go_simp
   refine (q1 _ (Below.drew b1)).mono ?_
   rintro e w2 ⟨rfl, b2⟩
   refine hK.out _ _ (keepB hHeld b2) (fun hHeld => ?_)
   clear hK K
   try simp only [Act.put, pu1, pu2, pu3, pu4, pu5, pu6]
   have B2 : Below w.heap.size w w2 := (Below.drew b1).trans (b2.mono (Below.drew b1).size)
   refine wpAnyH_ready (rs := [5]) (by kernel_rfl) (by simp) ?_
   refine AllReadyH.cons rfl (fun K hK => ?_) AllReadyH.nil
   go_simp
   refine (q2 _ B2).mono ?_
   rintro e w3 ⟨rfl, b3⟩
   refine hK.out _ _ (keepB hHeld b3) (fun hHeld => ?_)
   clear hK K
   try simp only [Act.put, pu1, pu2, pu3, pu4, pu5, pu6]
   have B3 : Below w.heap.size w w3 := B2.trans (b3.mono B2.size)
   refine wpAnyH_ready (rs := [6]) (by kernel_rfl) (by simp) ?_
   refine AllReadyH.cons rfl (fun K hK => ?_) AllReadyH.nil
   go_simp
   refine (q3 _ B3).mono ?_
   rintro e w4 ⟨rfl, b4⟩
   refine hK.out _ _ (keepB hHeld b4) (fun hHeld => ?_)
   clear hK K
   try simp only [Act.put, pu1, pu2, pu3, pu4, pu5, pu6]
   have B4 : Below w.heap.size w w4 := B3.trans (b4.mono B3.size)
   (refine wpAnyH_take (i := 7) (v := ?v7x5) rfl (by kernel_rfl) (by kernel_rfl) (by kernel_rfl) (fun _ _ _ h => h) (Or.inl ⟨by rfl, ?hy7x5⟩) (by assumption) ?rest7x5; case hy7x5 => (intro w hSw; (try dsimp only at hSw); go_split_ands; go_simp; (try with_reducible rfl)))
   try simp only [Act.put, pu1, pu2, pu3, pu4, pu5, pu6]
   refine wpAnyH_done (by kernel_rfl) ?_ _
   clear hHeld
   go_wp2
   go_ret
   exact ⟨by rw [HN.out]; rfl, B4⟩
  ·
   obtain ⟨s, rfl⟩ : ∃ s, l = [s] := by
    match l, h1, h2 with
    | [s], _, _ => exact ⟨s, rfl⟩
    | _ :: _ :: _, _, h2 => exact absurd (by simp) h2
   have HN : Hid (root [s] = leafH s) := root_one s
   have q := leaf_impl w s hG (by have := hz s (by simp); omega)
   obtain ⟨b, off, cap, rfl, hcap⟩ := slForm h (by rw [ss_len]; simp)
   have c0 : w.cell? ⟨b, off, none⟩ = some (.string s) := by
    obtain ⟨ao', c', he, _, _, hr⟩ := h
    simp only [Value.slice.injEq] at he
    obtain ⟨rfl, _, rfl⟩ := he
    obtain ⟨b', off', he', hcell⟩ := hr (by rw [ss_len]; simp)
    simp only [Option.some.injEq, Addr.mk.injEq] at he'
    obtain ⟨rfl, rfl, _⟩ := he'
    have := hcell 0 (by rw [ss_len]; simp)
    simpa [ss] using this
   have e1 : (ss [s]).length = 1 := by rw [ss_len]; rfl
   rw [e1] at hcap ⊢
   clear ih h hc hz h2 e1
   go_enter Tryd.func35, Tryd.ntmps35
   go_wp2_with fail
   refine q.mono ?_
   rintro e w1 ⟨rfl, b1⟩
   go_wp2
   go_ret
   exact ⟨by rw [HN.out]; rfl, b1⟩
set_option maxRecDepth 1000000 in
set_option maxHeartbeats 2000000 in
theorem root_impl (w : World) (v : Value) (l : List ByteArray) (hG : Glob w) (h : Sl w v (ss l)) (hl : l.length ≤ 1000000000000) (hz : ∀ s ∈ l, s.size ≤ 10000000000) :
  Calls Tryd.prog 22 #[v] w fun e w' => e = .returned (.string (rootOf l)) ∧ Below w.heap.size w w' := by
 have h0 := h
 obtain ⟨ao, cap, rfl, hcap, _⟩ := h
 rw [ss_len] at hcap h0 ⊢
 by_cases hn : l.length = 0
 ·
  obtain rfl : l = [] := List.eq_nil_of_length_eq_zero hn
  have HN : Hid (rootOf [] = Plain.txt (digest [])) := by show _ = _; unfold rootOf; rw [if_pos (by simp), root_nil]
  have q := digest_impl w (.slice none 0 0) [] hG (Sl.nil w) (by intro x hx; simp at hx) (by simp)
  clear hz h0
  go_enter Tryd.func22, Tryd.ntmps22
  go_wp2_with fail
  refine q.mono ?_
  rintro e w1 ⟨rfl, b1⟩
  go_wp2
  go_ret
  exact ⟨by rw [HN.out]; rfl, b1⟩
 have d0 : ((l.length : Int) == 0) = false := by rw [beq_eq_false_iff_ne]; omega
 by_cases hb : 200 < l.length
 ·
  have HN : Hid (rootOf l = ⟨#[]⟩) := by show _ = _; unfold rootOf; rw [if_neg (by omega)]
  have d1 : (200 : Int) < (l.length : Int) := by omega
  clear hz h0
  go_enter Tryd.func22, Tryd.ntmps22
  go_wp2
  go_ret
  exact ⟨by rw [HN.out]; rfl, Below.refl _ _⟩
 ·
  have HN : Hid (rootOf l = root l) := by show _ = _; unfold rootOf; rw [if_pos (by omega)]
  have d1 : ¬ (200 : Int) < (l.length : Int) := by omega
  have hB : ∀ (u : Value) (t : TypeId), Below w.heap.size w (w.alloc (.cells #[u] t)) := fun u t => (Below.refl _ _).alloc (Nat.le_refl _) _
  have q : ∀ (t : TypeId), _ := fun t => root1_any l.length l (Nat.le_refl _) (by omega) (by omega) hz (w.alloc (.cells #[.func (.func 35) #[] #[.pointer (some ⟨w.heap.size, 0, none⟩)]] t)) _ w.heap.size (hG.later (hB _ t)) (h0.later (hB _ t)) (new_cellT _ _ _)
  clear h0 hz
  go_enter Tryd.func22, Tryd.ntmps22
  go_wp2_with fail
  refine (q _).mono ?_
  rintro e w1 ⟨rfl, b1⟩
  have B1 : Below w.heap.size w w1 := (hB _ _).trans (b1.mono (hB _ _).size)
  go_wp2
  go_ret
  exact ⟨by rw [HN.out]; rfl, B1⟩
end Go.Proofs.YtchonoonclllbaaDoor.Tr
namespace Go.Proofs.YtchonoonclllbaaDoor.He
open Go.RowKit Go.Proofs.YtchonoonclllbaaDoor.Mem Go.Proofs.YtchonoonclllbaaDoor.Laws Go.Proofs.YtchonoonclllbaaDoor.Bytes Go.Proofs.YtchonoonclllbaaDoor.Sha Go.Proofs.YtchonoonclllbaaDoor.Tr
set_option linter.unusedVariables false
set_option linter.unusedSimpArgs false
set_option maxRecDepth 1000000 in
set_option maxHeartbeats 1000000 in
theorem headOf_impl (w : World) (v : Value) (l : List ByteArray) (hG : Glob w) (h : Sl w v (ss l)) (hl : l.length ≤ 1000000000000) (hz : ∀ s ∈ l, s.size ≤ 10000000000) :
  Calls Tryd.prog 14 #[v] w fun e w' => e = .returned (.agg #[.int .i64 (headOf l).n, .string (headOf l).r]) ∧ Below w.heap.size w w' := by
 have HR : Hid ((w.alloc (.cells #[.int .i64 0, .string ⟨#[]⟩] 24)).heap[w.heap.size]? = some (.cells (hc hd0) 24 (0, 0))) := heap_alloc_new w _
 have HB : Hid (Below w.heap.size w (w.alloc (.cells #[.int .i64 0, .string ⟨#[]⟩] 24))) := (Below.refl _ _).alloc (Nat.le_refl _) _
 by_cases h2 : l.length ≤ 200
 ·
  have q := root_impl (w.alloc (.cells #[.int .i64 0, .string ⟨#[]⟩] 24)) v l (hG.later HB.out) (h.later HB.out) (by omega) hz
  rw [show rootOf l = root l from if_pos h2] at q
  obtain ⟨M, hM⟩ : ∃ M, headOf l = M := ⟨_, rfl⟩
  have hM2 : M = ⟨l.length, root l⟩ := by rw [← hM]; unfold headOf; rw [if_pos h2]
  obtain ⟨ao, cap, rfl, hcap, _⟩ := h
  have d2 : ¬ (200 : Int) < (l.length : Int) := by omega
  obtain ⟨x, hx⟩ : ∃ x, root l = x := ⟨_, rfl⟩
  rw [hx] at q hM2
  rw [hM, hM2]
  rw [ss_len] at *
  clear hx hM hM2 hz
  go_enter Tryd.func14, Tryd.ntmps14
  go_wp2_with fail
  refine q.mono ?_
  rintro e w1 ⟨rfl, b1⟩
  have R1 := rowKeep HR.out b1
  have B1 : Below w.heap.size w w1 := HB.out.trans (b1.mono HB.out.size)
  clear q HR b1
  go_wp2_with (refine wpList_store_row rfl 24 _ _ rfl w.heap.size (hc (⟨(l.length : Int), x⟩ : Hd)) rfl rfl 24 _ R1 (sizeH (⟨(l.length : Int), x⟩ : Hd)) rfl (oneH (⟨(l.length : Int), x⟩ : Hd)) ?_)
  exact bodyPost_ret (v := .agg (hc ⟨(l.length : Int), x⟩)) (results_cell_row rfl _ _ w.heap.size 24 _ (0, 0) _ rfl (setRow_heap _ _ _ _ _ (0, 0) R1) Tryd.underlying24 rfl (sizeH _)) rfl ⟨rfl, below_setRow B1 (Nat.le_refl _) _⟩
 ·
  have d2 : (200 : Int) < (l.length : Int) := by omega
  have hM : headOf l = hd0 := by unfold headOf; rw [if_neg h2]
  rw [hM]
  obtain ⟨ao, cap, rfl, hcap, _⟩ := h
  rw [ss_len]
  clear hz hM
  go_enter Tryd.func14, Tryd.ntmps14
  go_wp2_with (refine wpList_store_row rfl 24 _ _ rfl w.heap.size (hc hd0) rfl rfl 24 _ HR.out (sizeH hd0) rfl (oneH hd0) ?_)
  exact bodyPost_ret (v := .agg (hc hd0)) (results_cell_row rfl _ _ w.heap.size 24 _ (0, 0) _ rfl (setRow_heap _ _ _ _ _ (0, 0) HR.out) Tryd.underlying24 rfl (sizeH hd0)) rfl ⟨rfl, below_setRow HB.out (Nat.le_refl _) _⟩
end Go.Proofs.YtchonoonclllbaaDoor.He
namespace Go.Proofs.YtchonoonclllbaaDoor.Lg
open Go.RowKit Go.Proofs.YtchonoonclllbaaDoor.Mem Go.Proofs.YtchonoonclllbaaDoor.Laws Go.Proofs.YtchonoonclllbaaDoor.Bytes Go.Proofs.YtchonoonclllbaaDoor.Sha Go.Proofs.YtchonoonclllbaaDoor.Tr Go.Proofs.YtchonoonclllbaaDoor.He
set_option linter.unusedVariables false
set_option linter.unusedSimpArgs false
theorem Own.none9 (w : World) (lo hi : Nat) : Own w lo hi 9 (.slice none 0 0) (ss []) := ⟨⟨rfl, Or.inl ⟨rfl, rfl⟩⟩, fun g hg => by simp [Value.ownBlock] at hg⟩
set_option maxRecDepth 1000000 in
set_option maxHeartbeats 2000000 in
theorem logof_impl (w : World) (v : Value) (l : List ByteArray) (hG : Glob w) (hs : Sl w v (ss l)) (hl : l.length ≤ 1000000000000) (hz : ∀ s ∈ l, s.size ≤ 10000000000) :
  Calls Tryd.prog 33 #[v] w fun e w' => e = .returned (.agg #[v, .int .i64 (headOf l).n, .string (headOf l).r]) ∧ Below w.heap.size w w' := by
 have HS : Hid (Sl w v (ss l)) := hs
 have HG : Hid (Glob w) := hG
 obtain ⟨ao, cap, rfl, hcap⟩ := hs.form
 rw [ss_len] at *
 clear hs hG
 have B0 : Hid (Below w.heap.size w w) := Below.refl _ _
 obtain ⟨W1, HW1, b1, y1, hS1, r_res1⟩ := Ke.l1 w #[.slice none 0 0, .int .i64 0, .string ⟨#[]⟩] 26
 have z1 := b1.size
 have B1 := Ke.b B0 b1
 have q : ∀ W v1, Glob W → Sl W v1 (ss l) → _ := fun W v1 h0 h1 => headOf_impl W v1 l h0 h1 hl hz
 obtain ⟨M, hM⟩ : ∃ M, headOf l = M := ⟨_, rfl⟩
 simp only [hM] at q
 rw [hM]
 clear hM hz
 go_enter Tryd.func33, Tryd.ntmps33
 go_wp2_with fail
 rw [HW1.out]
 refine (q W1 _ (HG.out.later B1.out) (HS.out.later B1.out)).mono ?_
 rintro e W2 ⟨rfl, b2⟩
 have z2 := b2.size
 have B2 := Ke.b B1 b2
 have r_res2 := Ke.r r_res1 b2
 clear r_res1
 go_wp2_with (refine wpList_store_row rfl 26 _ _ rfl (w.heap.size) (lc (.slice ao l.length cap) M) rfl rfl 26 _ r_res2.out (sizeL _ _) rfl (oneL _ rfl) ?_)
 refine bodyPost_ret (v := .agg (lc (.slice ao l.length cap) M)) (results_cell_row rfl _ _ (w.heap.size) 26 _ (0, 0) _ rfl (setRow_heap _ _ _ _ _ (0, 0) r_res2.out) Tryd.underlying26 rfl (sizeL _ _)) rfl ⟨rfl, below_setRow B2.out (by omega) _⟩
set_option maxRecDepth 1000000 in
set_option maxHeartbeats 2000000 in
theorem lognew_impl (w : World) (hG : Glob w) :
  Calls Tryd.prog 21 #[] w fun e w' => ∃ v', e = .returned (.agg #[v', .int .i64 (headOf []).n, .string (headOf []).r]) ∧ Own w' w.heap.size w'.heap.size 9 v' (ss []) ∧ Below w.heap.size w w' := by
 have HG : Hid (Glob w) := hG
 clear hG
 have B0 : Hid (Below w.heap.size w w) := Below.refl _ _
 obtain ⟨W1, HW1, b1, y1, hS1, r_res1⟩ := Ke.l1 w #[.slice none 0 0, .int .i64 0, .string ⟨#[]⟩] 26
 have z1 := b1.size
 have B1 := Ke.b B0 b1
 have q : ∀ W, Glob W → _ := fun W h0 => logof_impl W (.slice none 0 0) [] h0 (Sl.nil W) (Nat.zero_le _) (fun s hs => by cases hs)
 obtain ⟨M, hM⟩ : ∃ M, headOf [] = M := ⟨_, rfl⟩
 simp only [hM] at q
 rw [hM]
 clear hM
 go_enter Tryd.func21, Tryd.ntmps21
 go_wp2_with fail
 rw [HW1.out]
 refine (q W1 (HG.out.later B1.out)).mono ?_
 rintro e W2 ⟨rfl, b2⟩
 have z2 := b2.size
 have B2 := Ke.b B1 b2
 have r_res2 := Ke.r r_res1 b2
 clear r_res1
 go_wp2_with (refine wpList_store_row rfl 26 _ _ rfl (w.heap.size) (lc (.slice none 0 0) M) rfl rfl 26 _ r_res2.out (sizeL _ _) rfl (oneL _ rfl) ?_)
 refine bodyPost_ret (v := .agg (lc (.slice none 0 0) M)) (results_cell_row rfl _ _ (w.heap.size) 26 _ (0, 0) _ rfl (setRow_heap _ _ _ _ _ (0, 0) r_res2.out) Tryd.underlying26 rfl (sizeL _ _)) rfl ⟨.slice none 0 0, rfl, Own.none9 _ _ _, below_setRow B2.out (by omega) _⟩
end Go.Proofs.YtchonoonclllbaaDoor.Lg
namespace Go.Proofs.YtchonoonclllbaaDoor.Ed
open Go.RowKit Go.Proofs.YtchonoonclllbaaDoor.Mem Go.Proofs.YtchonoonclllbaaDoor.Laws Go.Proofs.YtchonoonclllbaaDoor.Bytes Go.Proofs.YtchonoonclllbaaDoor.Sha Go.Proofs.YtchonoonclllbaaDoor.Tr
set_option linter.unusedVariables false
set_option linter.unusedSimpArgs false
theorem Own.owns {w : World} {lo hi : Nat} {e : TypeId} {v : Value} {cs : List Value} (h : Own w lo hi e v cs) {g : Nat} (hg : v.ownBlock = some g) : lo ≤ g ∧ g < hi := by
 obtain ⟨⟨h1, h2⟩, h3⟩ := h
 refine ⟨?_, h3 g hg⟩
 rcases h2 with ⟨rfl, _⟩ | ⟨g', cap, cur, rfl, hb, _⟩
 ·
  cases hg
 ·
  simp only [Value.ownBlock, Option.some.injEq] at hg
  omega
theorem Own.put {w : World} {lo hi gb n cap : Nat} {l : List ByteArray} (h : Own w lo hi 9 (.slice (some ⟨gb, 0, none⟩) n cap) (ss l)) (k : Nat) (x : ByteArray) : Own (w.setCell ⟨gb, k, none⟩ (.string x)) lo hi 9 (.slice (some ⟨gb, 0, none⟩) n cap) (ss (l.set k x)) := by
 obtain ⟨⟨h1, h2⟩, h3⟩ := h
 have hl : (ss (l.set k x)).length = (ss l).length := by rw [ss_len, ss_len, List.length_set]
 refine ⟨⟨by rw [Nat.mul_one], ?_⟩, h3⟩
 rcases h2 with ⟨he, _⟩ | ⟨g', cap', cur, he, hb, hg, hnc, hcm, hcs, ht⟩
 ·
  cases he
 ·
  simp only [Value.slice.injEq, Option.some.injEq, Addr.mk.injEq] at he
  obtain ⟨⟨rfl, _⟩, rfl, rfl⟩ := he
  refine .inr ⟨gb, cap, cur.setIfInBounds k (.string x), by rw [hl], hb, row_set hg k _, by rw [hl]; exact hnc, hcm, by simp; omega, ?_⟩
  rw [hl, Array.toList_setIfInBounds, List.take_set, ht]
  simp [ss]
end Go.Proofs.YtchonoonclllbaaDoor.Ed
