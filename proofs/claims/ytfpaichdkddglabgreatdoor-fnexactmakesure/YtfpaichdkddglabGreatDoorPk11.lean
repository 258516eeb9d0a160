/- Texts in one: Lg1, Nth, Lg2. -/
import Derived.Test.YtfpaichdkddglabGreatDoorPk10
import Derived.Test.YtfpaichdkddglabGreatDoorPk8
import Derived.Test.YtfpaichdkddglabGreatDoorPk9
import Derived.Deep.RegionHeld3
namespace Go.Proofs.YtfpaichdkddglabGreatDoor.Lg
open Go.RowKit Go.Proofs.YtfpaichdkddglabGreatDoor.Mem Go.Proofs.YtfpaichdkddglabGreatDoor.Laws Go.Proofs.YtfpaichdkddglabGreatDoor.Bytes Go.Proofs.YtfpaichdkddglabGreatDoor.Sha Go.Proofs.YtfpaichdkddglabGreatDoor.Tr Go.Proofs.YtfpaichdkddglabGreatDoor.He
set_option linter.unusedVariables false
set_option linter.unusedSimpArgs false
def lc (v : Value) (h : Hd) : Array Value := #[v, .int .i64 h.n, .string h.r]
theorem sizeL (v : Value) (h : Hd) : (Tryz.prog.info? 37).map (·.size) = some (lc v h).size := by
 show _ = some 3
 kernel_rfl
theorem oneL {v : Value} (h : Hd) (hv : v.oneCell' = true) : (lc v h).all (·.oneCell') = true := by
 simp [lc, Value.oneCell']
 exact hv
def logOk (l : List ByteArray) (h : Hd) : Bool := decide (l.length ≤ 200) && eqH h (headOf l)
theorem logOk_yes {l : List ByteArray} {h : Hd} (hk : logOk l h = true) : l.length ≤ 200 ∧ h = headOf l := by
 unfold logOk at hk
 simp only [Bool.and_eq_true, decide_eq_true_eq] at hk
 exact ⟨hk.1, (eqH_iff _ _).1 hk.2⟩
theorem logOk_of {l : List ByteArray} (hl : l.length ≤ 200) : logOk l (headOf l) = true := by
 unfold logOk
 simp only [Bool.and_eq_true, decide_eq_true_eq]
 exact ⟨hl, (eqH_iff _ _).2 rfl⟩
set_option maxRecDepth 1000000 in
set_option maxHeartbeats 1000000 in
theorem lognew_spec (w : World) : Calls Tryz.prog 68 #[] w fun e w' => e = .returned (.agg #[.slice none 0 0, .int .i64 (headOf []).n, .string (headOf []).r]) ∧ Below w.heap.size w w' := by
 obtain ⟨W, hW⟩ : ∃ W, W = (w.alloc (.cells (lc (.slice none 0 0) hd0) 37)).alloc (.cells #[] 9) := ⟨_, rfl⟩
 have HB : Hid (Below w.heap.size w W) := by
  show Below _ _ _
  rw [hW]
  exact ((Below.refl _ _).alloc (Nat.le_refl _) _).alloc (by simp) _
 have HR : Hid (W.heap[w.heap.size]? = some (.cells (lc (.slice none 0 0) hd0) 37 (0, 0))) := by show _ = _; rw [hW]; exact heap_alloc2_old w _ _
 have q : ∀ v, Sl W v (ss []) → _ := fun v hv => headOf_spec W v [] hv (by simp) (by simp)
 have q1 := q (.slice (some ⟨w.heap.size + 1, 0, none⟩) 0 0) (by
  have h := (emptyT (w.alloc (.cells (lc (.slice none 0 0) hd0) 37)) 0 (Nat.zero_le _)).sl
  rw [hW]
  simpa using h)
 obtain ⟨M, hM⟩ : ∃ M, headOf [] = M := ⟨_, rfl⟩
 rw [hM] at q1 ⊢
 rw [hW] at q1
 have HW : Hid (W = _) := hW
 clear hW hM q
 unfold lc hd0 at q1
 go_enter Tryz.func68, Tryz.ntmps68
 go_wp2_with fail
 refine q1.mono ?_
 rintro e w1 ⟨rfl, b1⟩
 have hW := HW.out
 unfold lc hd0 at hW
 rw [← hW] at b1
 have R1 := rowKeep HR.out b1
 have B1 : Below w.heap.size w w1 := HB.out.trans (b1.mono HB.out.size)
 clear q1 HW hW b1 HR HB
 go_wp2_with (refine wpList_store_row rfl 37 _ _ rfl w.heap.size (lc (.slice none 0 0) M) rfl rfl 37 _ R1 (sizeL _ _) rfl (oneL _ rfl) ?_)
 exact bodyPost_ret (v := .agg (lc (.slice none 0 0) M)) (results_cell_row rfl _ _ w.heap.size 37 _ (0, 0) _ rfl (setRow_heap _ _ _ _ _ (0, 0) R1) Tryz.underlying37 rfl (sizeL _ _)) rfl ⟨rfl, below_setRow B1 (Nat.le_refl _) _⟩
set_option maxRecDepth 1000000 in
set_option maxHeartbeats 2000000 in
theorem logok_spec (w : World) (v : Value) (l : List ByteArray) (h : Hd) (hs : Sl w v (ss l)) (hl : l.length ≤ 1000000000000) (hz : ∀ s ∈ l, s.size ≤ 10000000000) :
  Calls Tryz.prog 50 #[.agg #[v, .int .i64 h.n, .string h.r]] w fun e w' => e = .returned (.bool (logOk l h)) ∧ Below w.heap.size w w' := by
 have hs0 := hs
 obtain ⟨ao, cap, rfl, hcap⟩ := hs.form
 rw [ss_len] at *
 obtain ⟨W, hW, r0, HB⟩ : ∃ W, Hid (w.alloc (.cells #[.slice ao l.length cap, .int .i64 h.n, .string h.r] 37) = W) ∧ W.heap[w.heap.size]? = some (.cells (lc (.slice ao l.length cap) h) 37 (0, 0)) ∧ Hid (Below w.heap.size w W) := ⟨_, rfl, heap_alloc_new w _, (Below.refl _ _).alloc (Nat.le_refl _) _⟩
 have c0 : W.cell? ⟨w.heap.size, 0, none⟩ = some (.slice ao l.length cap) := row_at r0 0
 have c1 : W.cell? ⟨w.heap.size, 1, none⟩ = some (.int .i64 h.n) := row_at r0 1
 have c2 : W.cell? ⟨w.heap.size, 2, none⟩ = some (.string h.r) := row_at r0 2
 have q := headOf_spec W.drew _ l (hs0.later (Below.drew HB.out)) hl hz
 have e1 : ∀ W', _ := fun W' => eqlH W' h (headOf l)
 have e2 : ∀ W' op x y xs ys, _ := fun W' op x y xs ys => grdH W' op x y xs ys
 have HN : Hid (logOk l h = (decide (l.length ≤ 200) && eqH h (headOf l))) := rfl
 obtain ⟨M, hM⟩ : ∃ M, headOf l = M := ⟨_, rfl⟩
 rw [hM] at q HN
 simp only [hM] at e1
 obtain ⟨B, hB⟩ : ∃ B, eqH h M = B := ⟨_, rfl⟩
 rw [hB] at HN
 simp only [hB] at e1
 obtain ⟨A, hA⟩ : ∃ A, logOk l h = A := ⟨_, rfl⟩
 rw [hA] at HN ⊢
 clear hM hB hA hs hs0 r0 hz
 by_cases h2 : l.length ≤ 200
 ·
  have d1 : decide ((l.length : Int) ≤ 200) = true := by simp; omega
  have HN2 : Hid (A = B) := by show _ = _; rw [HN.out]; simp [h2]
  clear HN
  go_enter Tryz.func50, Tryz.ntmps50
  go_wp2_with fail
  rw [hW.out]
  refine wp_region_held_drew (S := fun w' => w'.cell? ⟨w.heap.size, 0, none⟩ = some (.slice ao l.length cap) ∧ w'.cell? ⟨w.heap.size, 1, none⟩ = some (.int .i64 h.n) ∧ w'.cell? ⟨w.heap.size, 2, none⟩ = some (.string h.r)) (by kernel_rfl) ⟨c0, c1, c2⟩ (fun hHeld => ?_)
  (refine wpAnyH_take (i := 0) (v := ?v0x1) rfl (by kernel_rfl) (by kernel_rfl) (by kernel_rfl) (fun _ _ _ h => h) (Or.inl ⟨by rfl, ?hy0x1⟩) (by assumption) ?rest0x1; case hy0x1 => (intro w hSw; (try dsimp only at hSw); go_split_ands; go_simp; (try with_reducible rfl)))
  try simp only [Act.put, pu1, pu2, pu3, pu4, pu5, pu6]
  (refine wpAnyH_take (i := 1) (v := ?v1x2) rfl (by kernel_rfl) (by kernel_rfl) (by kernel_rfl) (fun _ _ _ h => h) (Or.inl ⟨by rfl, ?hy1x2⟩) (by assumption) ?rest1x2; case hy1x2 => (intro w hSw; (try dsimp only at hSw); go_split_ands; go_simp; (try with_reducible rfl)))
  try simp only [Act.put, pu1, pu2, pu3, pu4, pu5, pu6]
  (refine wpAnyH_take (i := 2) (v := ?v2x3) rfl (by kernel_rfl) (by kernel_rfl) (by kernel_rfl) (fun _ _ _ h => h) (Or.inl ⟨by rfl, ?hy2x3⟩) (by assumption) ?rest2x3; case hy2x3 => (intro w hSw; (try dsimp only at hSw); go_split_ands; go_simp; (try with_reducible rfl)))
  try simp only [Act.put, pu1, pu2, pu3, pu4, pu5, pu6]
  (refine wpAnyH_take (i := 3) (v := ?v3x4) rfl (by kernel_rfl) (by kernel_rfl) (by kernel_rfl) (fun _ _ _ h => h) (Or.inl ⟨by rfl, ?hy3x4⟩) (by assumption) ?rest3x4; case hy3x4 => (intro w hSw; (try dsimp only at hSw); go_split_ands; go_simp; (try with_reducible rfl)))
  try simp only [Act.put, pu1, pu2, pu3, pu4, pu5, pu6]
  (refine wpAnyH_take (i := 4) (v := ?v4x5) rfl (by kernel_rfl) (by kernel_rfl) (by kernel_rfl) (fun _ _ _ h => h) (Or.inl ⟨by rfl, ?hy4x5⟩) (by assumption) ?rest4x5; case hy4x5 => (intro w hSw; (try dsimp only at hSw); go_split_ands; go_simp; (try with_reducible rfl)))
  try simp only [Act.put, pu1, pu2, pu3, pu4, pu5, pu6]
  (refine wpAnyH_take (i := 5) (v := ?v5x6) rfl (by kernel_rfl) (by kernel_rfl) (by kernel_rfl) (fun _ _ _ h => h) (Or.inl ⟨by rfl, ?hy5x6⟩) (by assumption) ?rest5x6; case hy5x6 => (intro w hSw; (try dsimp only at hSw); go_split_ands; go_simp; (try with_reducible rfl)))
  try simp only [Act.put, pu1, pu2, pu3, pu4, pu5, pu6]
  (refine wpAnyH_take (i := 6) (v := ?v6x7) rfl (by kernel_rfl) (by kernel_rfl) (by kernel_rfl) (fun _ _ _ h => h) (Or.inl ⟨by rfl, ?hy6x7⟩) (by assumption) ?rest6x7; case hy6x7 => (intro w hSw; (try dsimp only at hSw); go_split_ands; go_simp; (try with_reducible rfl)))
  try simp only [Act.put, pu1, pu2, pu3, pu4, pu5, pu6]
  (refine wpAnyH_take (i := 7) (v := ?v7x8) rfl (by kernel_rfl) (by kernel_rfl) (by kernel_rfl) (fun _ _ _ h => h) (Or.inl ⟨by rfl, ?hy7x8⟩) (by assumption) ?rest7x8; case hy7x8 => (intro w hSw; (try dsimp only at hSw); go_split_ands; go_simp; (try with_reducible rfl)))
  try simp only [Act.put, pu1, pu2, pu3, pu4, pu5, pu6]
  (refine wpAnyH_take (i := 8) (v := ?v8x9) rfl (by kernel_rfl) (by kernel_rfl) (by kernel_rfl) (fun _ _ _ h => h) (Or.inl ⟨by rfl, ?hy8x9⟩) (by assumption) ?rest8x9; case hy8x9 => (intro w hSw; (try dsimp only at hSw); go_split_ands; go_simp; (try with_reducible rfl)))
  try simp only [Act.put, pu1, pu2, pu3, pu4, pu5, pu6]
  refine wpAnyH_ready (rs := [9]) (by kernel_rfl) (by simp) ?_
  refine AllReadyH.cons rfl (fun K hK => ?_) AllReadyH.nil
  go_simp
  refine (q).mono ?_
  rintro e w1 ⟨rfl, b1⟩
  refine hK.out _ _ ?_ (fun hHeld => ?_)
  ·
   exact ⟨keepR (W := W.drew) hHeld.1 b1, keepR (W := W.drew) hHeld.2.1 b1, keepR (W := W.drew) hHeld.2.2 b1⟩
  clear hK K
  try simp only [Act.put, pu1, pu2, pu3, pu4, pu5, pu6]
  (refine wpAnyH_take (i := 10) (v := ?v10x10) rfl (by kernel_rfl) (by kernel_rfl) (by kernel_rfl) (fun _ _ _ h => h) (Or.inl ⟨by rfl, ?hy10x10⟩) (by assumption) ?rest10x10; case hy10x10 => (intro w hSw; (try dsimp only at hSw); go_split_ands; go_simp; (try with_reducible rfl)))
  try simp only [Act.put, pu1, pu2, pu3, pu4, pu5, pu6]
  (refine wpAnyH_take (i := 11) (v := ?v11x11) rfl (by kernel_rfl) (by kernel_rfl) (by kernel_rfl) (fun _ _ _ h => h) (Or.inl ⟨by rfl, ?hy11x11⟩) (by assumption) ?rest11x11; case hy11x11 => (intro w hSw; (try dsimp only at hSw); go_split_ands; go_simp; (try with_reducible rfl)))
  try simp only [Act.put, pu1, pu2, pu3, pu4, pu5, pu6]
  (refine wpAnyH_take (i := 12) (v := ?v12x12) rfl (by kernel_rfl) (by kernel_rfl) (by kernel_rfl) (fun _ _ _ h => h) (Or.inl ⟨by rfl, ?hy12x12⟩) (by assumption) ?rest12x12; case hy12x12 => (intro w hSw; (try dsimp only at hSw); go_split_ands; go_simp; (try with_reducible rfl)))
  try simp only [Act.put, pu1, pu2, pu3, pu4, pu5, pu6]
  refine wpAnyH_done (by kernel_rfl) ?_ _
  clear hHeld
  go_wp2
  go_ret
  exact ⟨by rw [HN2.out]; rfl, (Below.drew HB.out).trans (b1.mono HB.out.size)⟩
 ·
  have d1 : decide ((l.length : Int) ≤ 200) = false := by simp; omega
  have HN2 : Hid (A = false) := by show _ = _; rw [HN.out]; simp [h2]
  clear HN q
  go_enter Tryz.func50, Tryz.ntmps50
  go_wp2_with fail
  rw [hW.out]
  refine wp_region_held_drew (S := fun w' => w'.cell? ⟨w.heap.size, 0, none⟩ = some (.slice ao l.length cap) ∧ w'.cell? ⟨w.heap.size, 1, none⟩ = some (.int .i64 h.n) ∧ w'.cell? ⟨w.heap.size, 2, none⟩ = some (.string h.r)) (by kernel_rfl) ⟨c0, c1, c2⟩ (fun hHeld => ?_)
  (refine wpAnyH_take (i := 0) (v := ?v0x13) rfl (by kernel_rfl) (by kernel_rfl) (by kernel_rfl) (fun _ _ _ h => h) (Or.inl ⟨by rfl, ?hy0x13⟩) (by assumption) ?rest0x13; case hy0x13 => (intro w hSw; (try dsimp only at hSw); go_split_ands; go_simp; (try with_reducible rfl)))
  try simp only [Act.put, pu1, pu2, pu3, pu4, pu5, pu6]
  (refine wpAnyH_take (i := 1) (v := ?v1x14) rfl (by kernel_rfl) (by kernel_rfl) (by kernel_rfl) (fun _ _ _ h => h) (Or.inl ⟨by rfl, ?hy1x14⟩) (by assumption) ?rest1x14; case hy1x14 => (intro w hSw; (try dsimp only at hSw); go_split_ands; go_simp; (try with_reducible rfl)))
  try simp only [Act.put, pu1, pu2, pu3, pu4, pu5, pu6]
  (refine wpAnyH_take (i := 2) (v := ?v2x15) rfl (by kernel_rfl) (by kernel_rfl) (by kernel_rfl) (fun _ _ _ h => h) (Or.inl ⟨by rfl, ?hy2x15⟩) (by assumption) ?rest2x15; case hy2x15 => (intro w hSw; (try dsimp only at hSw); go_split_ands; go_simp; (try with_reducible rfl)))
  try simp only [Act.put, pu1, pu2, pu3, pu4, pu5, pu6]
  (refine wpAnyH_take (i := 3) (v := ?v3x16) rfl (by kernel_rfl) (by kernel_rfl) (by kernel_rfl) (fun _ _ _ h => h) (Or.inl ⟨by rfl, ?hy3x16⟩) (by assumption) ?rest3x16; case hy3x16 => (intro w hSw; (try dsimp only at hSw); go_split_ands; go_simp; (try with_reducible rfl)))
  try simp only [Act.put, pu1, pu2, pu3, pu4, pu5, pu6]
  (refine wpAnyH_take (i := 4) (v := ?v4x17) rfl (by kernel_rfl) (by kernel_rfl) (by kernel_rfl) (fun _ _ _ h => h) (Or.inl ⟨by rfl, ?hy4x17⟩) (by assumption) ?rest4x17; case hy4x17 => (intro w hSw; (try dsimp only at hSw); go_split_ands; go_simp; (try with_reducible rfl)))
  try simp only [Act.put, pu1, pu2, pu3, pu4, pu5, pu6]
  (refine wpAnyH_take (i := 5) (v := undef) rfl (by kernel_rfl) (by kernel_rfl) (by kernel_rfl) (fun _ _ _ h => h) (Or.inr ⟨by rfl, rfl⟩) (by assumption) ?_)
  try simp only [Act.put, pu1, pu2, pu3, pu4, pu5, pu6]
  (refine wpAnyH_take (i := 6) (v := undef) rfl (by kernel_rfl) (by kernel_rfl) (by kernel_rfl) (fun _ _ _ h => h) (Or.inr ⟨by rfl, rfl⟩) (by assumption) ?_)
  try simp only [Act.put, pu1, pu2, pu3, pu4, pu5, pu6]
  (refine wpAnyH_take (i := 7) (v := undef) rfl (by kernel_rfl) (by kernel_rfl) (by kernel_rfl) (fun _ _ _ h => h) (Or.inr ⟨by rfl, rfl⟩) (by assumption) ?_)
  try simp only [Act.put, pu1, pu2, pu3, pu4, pu5, pu6]
  (refine wpAnyH_take (i := 8) (v := undef) rfl (by kernel_rfl) (by kernel_rfl) (by kernel_rfl) (fun _ _ _ h => h) (Or.inr ⟨by rfl, rfl⟩) (by assumption) ?_)
  try simp only [Act.put, pu1, pu2, pu3, pu4, pu5, pu6]
  (refine wpAnyH_take (i := 9) (v := undef) rfl (by kernel_rfl) (by kernel_rfl) (by kernel_rfl) (fun _ _ _ h => h) (Or.inr ⟨by rfl, rfl⟩) (by assumption) ?_)
  try simp only [Act.put, pu1, pu2, pu3, pu4, pu5, pu6]
  (refine wpAnyH_take (i := 10) (v := undef) rfl (by kernel_rfl) (by kernel_rfl) (by kernel_rfl) (fun _ _ _ h => h) (Or.inr ⟨by rfl, rfl⟩) (by assumption) ?_)
  try simp only [Act.put, pu1, pu2, pu3, pu4, pu5, pu6]
  (refine wpAnyH_take (i := 11) (v := ?v11x24) rfl (by kernel_rfl) (by kernel_rfl) (by kernel_rfl) (fun _ _ _ h => h) (Or.inl ⟨by rfl, ?hy11x24⟩) (by assumption) ?rest11x24; case hy11x24 => (intro w hSw; (try dsimp only at hSw); go_split_ands; go_simp; (try with_reducible rfl)))
  try simp only [Act.put, pu1, pu2, pu3, pu4, pu5, pu6]
  (refine wpAnyH_take (i := 12) (v := ?v12x25) rfl (by kernel_rfl) (by kernel_rfl) (by kernel_rfl) (fun _ _ _ h => h) (Or.inl ⟨by rfl, ?hy12x25⟩) (by assumption) ?rest12x25; case hy12x25 => (intro w hSw; (try dsimp only at hSw); go_split_ands; go_simp; (try with_reducible rfl)))
  try simp only [Act.put, pu1, pu2, pu3, pu4, pu5, pu6]
  refine wpAnyH_done (by kernel_rfl) ?_ _
  clear hHeld
  go_wp2
  go_ret
  exact ⟨by rw [HN2.out]; rfl, Below.drew HB.out⟩
set_option maxRecDepth 1000000 in
set_option maxHeartbeats 2000000 in
theorem copy_spec (w : World) (v : Value) (l : List ByteArray) (h : Hd) (hs : Sl w v (ss l)) (hl : l.length ≤ 1000000000) :
  Calls Tryz.prog 58 #[.agg #[v, .int .i64 h.n, .string h.r]] w fun e w' => ∃ v', e = .returned (.agg #[v', .int .i64 h.n, .string h.r]) ∧ Own w' w.heap.size w'.heap.size 9 v' (ss l) ∧ Below w.heap.size w w' := by
 obtain ⟨i0, hi, hz0, hz1, hz2⟩ := info_parts info9t
 obtain ⟨W, hW⟩ : ∃ W, W = (w.alloc (.cells #[v, .int .i64 h.n, .string h.r] 37)).alloc (.cells #[.slice none 0 0, .int .i64 0, .string ⟨#[]⟩] 37) := ⟨_, rfl⟩
 have r0 : W.heap[w.heap.size]? = some (.cells (lc v h) 37 (0, 0)) := by rw [hW]; exact heap_alloc2_old w _ _
 have r1 : W.heap[w.heap.size + 1]? = some (.cells (lc (.slice none 0 0) hd0) 37 (0, 0)) := by rw [hW]; exact heap_alloc2_new w _ _
 have hB : Below w.heap.size w W := by rw [hW]; exact ((Below.refl _ _).alloc (Nat.le_refl _) _).alloc (by simp) _
 have hz : W.heap.size = w.heap.size + 2 := by rw [hW]; simp
 have HS : Hid (Sl W v (ss l)) := hs.later hB
 have HR1 : Hid _ := r1
 have HB : Hid _ := hB
 have HZ : Hid _ := hz
 have HW : Hid _ := hW
 obtain ⟨ao, cap, rfl, hcap⟩ := hs.form
 rw [ss_len] at *
 have c0 : W.cell? ⟨w.heap.size, 0, none⟩ = some (.slice ao l.length cap) := row_at r0 0
 have c1 : W.cell? ⟨w.heap.size, 1, none⟩ = some (.int .i64 h.n) := row_at r0 1
 have c2 : W.cell? ⟨w.heap.size, 2, none⟩ = some (.string h.r) := row_at r0 2
 clear hW r0 r1 hB hz
 have c6 : (ss []).length + (ss l).length ≤ maxLen := by rw [ss_len, ss_len]; unfold maxLen; simp; omega
 have c7 : ((ss []).length + (ss l).length) * 16 ≤ 140737488355328 := by rw [ss_len, ss_len]; simp; omega
 go_enter Tryz.func58, Tryz.ntmps58
 go_wp2_with fail
 rw [← HW.out]
 refine wp_region_held_drew (S := fun w' => w'.cell? ⟨w.heap.size, 0, none⟩ = some (.slice ao l.length cap) ∧ w'.cell? ⟨w.heap.size, 1, none⟩ = some (.int .i64 h.n) ∧ w'.cell? ⟨w.heap.size, 2, none⟩ = some (.string h.r)) (by kernel_rfl) ⟨c0, c1, c2⟩ (fun hHeld => ?_)
 (refine wpAnyH_take (i := 1) (v := ?v1x26) rfl (by kernel_rfl) (by kernel_rfl) (by kernel_rfl) (fun _ _ _ h => h) (Or.inl ⟨by rfl, ?hy1x26⟩) (by assumption) ?rest1x26; case hy1x26 => (intro w hSw; (try dsimp only at hSw); go_split_ands; go_simp; (try with_reducible rfl)))
 try simp only [Act.put, pu1, pu2, pu3, pu4, pu5, pu6]
 (refine wpAnyH_take (i := 2) (v := ?v2x27) rfl (by kernel_rfl) (by kernel_rfl) (by kernel_rfl) (fun _ _ _ h => h) (Or.inl ⟨by rfl, ?hy2x27⟩) (by assumption) ?rest2x27; case hy2x27 => (intro w hSw; (try dsimp only at hSw); go_split_ands; go_simp; (try with_reducible rfl)))
 try simp only [Act.put, pu1, pu2, pu3, pu4, pu5, pu6]
 (refine wpAnyH_take (i := 4) (v := ?v4x28) rfl (by kernel_rfl) (by kernel_rfl) (by kernel_rfl) (fun _ _ _ h => h) (Or.inl ⟨by rfl, ?hy4x28⟩) (by assumption) ?rest4x28; case hy4x28 => (intro w hSw; (try dsimp only at hSw); go_split_ands; go_simp; (try with_reducible rfl)))
 try simp only [Act.put, pu1, pu2, pu3, pu4, pu5, pu6]
 (refine wpAnyH_take (i := 5) (v := ?v5x29) rfl (by kernel_rfl) (by kernel_rfl) (by kernel_rfl) (fun _ _ _ h => h) (Or.inl ⟨by rfl, ?hy5x29⟩) (by assumption) ?rest5x29; case hy5x29 => (intro w hSw; (try dsimp only at hSw); go_split_ands; go_simp; (try with_reducible rfl)))
 try simp only [Act.put, pu1, pu2, pu3, pu4, pu5, pu6]
 refine wpAnyH_ready (rs := [0]) (by kernel_rfl) (by simp) ?_
 refine AllReadyH.cons rfl (fun K hK => ?_) AllReadyH.nil
 go_simp
 refine hK.out _ _ ⟨keepR (W := W.drew) hHeld.1 ((Below.refl _ _).alloc (Nat.le_refl _) _), keepR (W := W.drew) hHeld.2.1 ((Below.refl _ _).alloc (Nat.le_refl _) _), keepR (W := W.drew) hHeld.2.2 ((Below.refl _ _).alloc (Nat.le_refl _) _)⟩ (fun hHeld => ?_)
 clear hK K
 try simp only [Act.put, pu1, pu2, pu3, pu4, pu5, pu6]
 refine wpAnyH_ready (rs := [3]) (by kernel_rfl) (by simp) ?_
 refine AllReadyH.cons rfl (fun K hK => ?_) AllReadyH.nil
 refine step_app (by rfl) (.tmp 3) (.tmp 5) 22 (by rfl) 9 i0 (.string ⟨#[]⟩) 16 Tryz.underlying22 hi hz0 hz1 hz2 rfl (w.heap.size + 2) _ _ (by rfl) (emptyT W.drew (w.heap.size + 2) (by show _ ≤ W.heap.size; rw [HZ.out]; exact Nat.le_refl _)) _ (by rfl) (ss l) (Sl.later (w := W.drew) HS.out ((Below.refl _ _).alloc (Nat.le_refl _) _)) (ss_one l) c6 c7 (by show _ ≤ (W.heap.push _).size; rw [Array.size_push, HZ.out]; omega) ?_
 intro v5 w5 o5 b5
 refine hK.out _ _ ⟨(b5.cell (by show w.heap.size < w.heap.size + 2; omega)).trans hHeld.1, (b5.cell (by show w.heap.size < w.heap.size + 2; omega)).trans hHeld.2.1, (b5.cell (by show w.heap.size < w.heap.size + 2; omega)).trans hHeld.2.2⟩ (fun hHeld => ?_)
 clear hK K
 try simp only [Act.put, pu1, pu2, pu3, pu4, pu5, pu6]
 have o5 : Own w5 (w.heap.size + 2) w5.heap.size 9 v5 (ss l) := o5
 obtain ⟨ao5, L5, cap5, rfl, _, _⟩ := o5.form
 (refine wpAnyH_take (i := 6) (v := ?v6x30) rfl (by kernel_rfl) (by kernel_rfl) (by kernel_rfl) (fun _ _ _ h => h) (Or.inl ⟨by rfl, ?hy6x30⟩) (by assumption) ?rest6x30; case hy6x30 => (intro w hSw; (try dsimp only at hSw); go_split_ands; go_simp; (try with_reducible rfl)))
 try simp only [Act.put, pu1, pu2, pu3, pu4, pu5, pu6]
 have J1 : w5.heap[w.heap.size + 1]? = some (.cells (lc (.slice none 0 0) hd0) 37 (0, 0)) := (b5.block (w.heap.size + 1) (by omega)).trans ((heap_alloc_old W.drew _ (by show _ < W.heap.size; rw [HZ.out]; omega)).trans HR1.out)
 have JB : Below w.heap.size w w5 := ((Below.drew HB.out).alloc (by show _ ≤ W.heap.size; rw [HZ.out]; omega) _).trans (b5.mono (by omega))
 have hne : w.heap.size ≠ w.heap.size + 1 := by omega
 refine wpAnyH_ready (rs := [7]) (by kernel_rfl) (by simp) ?_
 refine AllReadyH.cons rfl (fun K hK => ?_) AllReadyH.nil
 rw [if_pos (by rfl)]
 refine wp_store_row 37 _ _ rfl (w.heap.size + 1) (lc (.slice ao5 L5 cap5) h) rfl rfl 37 _ J1 (sizeL _ _) rfl (oneL _ rfl) ?_
 refine hK.out _ _ ⟨cell_row (by exact hne) hHeld.1, cell_row (by exact hne) hHeld.2.1, cell_row (by exact hne) hHeld.2.2⟩ (fun hHeld => ?_)
 clear hK K
 try simp only [Act.put, pu1, pu2, pu3, pu4, pu5, pu6]
 refine wpAnyH_done (by kernel_rfl) ?_ _
 clear hHeld
 go_wp2
 refine bodyPost_ret (v := .agg (lc (.slice ao5 L5 cap5) h)) (results_cell_row rfl _ _ (w.heap.size + 1) 37 _ (0, 0) _ rfl (setRow_heap _ _ _ _ _ (0, 0) J1) Tryz.underlying37 rfl (sizeL _ _)) rfl ⟨_, rfl, ?_, below_setRow JB (by omega) _⟩
 exact (o5.setRow _ (by omega)).mono (by omega) (by simp)
end Go.Proofs.YtfpaichdkddglabGreatDoor.Lg
namespace Go.Proofs.YtfpaichdkddglabGreatDoor.Mem
open Go.RowKit
set_option linter.unusedVariables false
set_option linter.unusedSimpArgs false
theorem alloc_nth1_0 (w : World) (O0 : Obj) : (w.alloc O0).heap[w.heap.size]? = some O0 := by
 exact heap_alloc_new w O0
theorem alloc_nth2_0 (w : World) (O0 O1 : Obj) : ((w.alloc O0).alloc O1).heap[w.heap.size]? = some O0 := by
 rw [heap_alloc_old _ _ (by simp; try omega)]
 exact alloc_nth1_0 w O0
theorem alloc_nth2_1 (w : World) (O0 O1 : Obj) : ((w.alloc O0).alloc O1).heap[w.heap.size + 1]? = some O1 := by
 have h := heap_alloc_new (w.alloc O0) O1
 simpa using h
theorem alloc_nth3_0 (w : World) (O0 O1 O2 : Obj) : (((w.alloc O0).alloc O1).alloc O2).heap[w.heap.size]? = some O0 := by
 rw [heap_alloc_old _ _ (by simp; try omega)]
 exact alloc_nth2_0 w O0 O1
theorem alloc_nth3_1 (w : World) (O0 O1 O2 : Obj) : (((w.alloc O0).alloc O1).alloc O2).heap[w.heap.size + 1]? = some O1 := by
 rw [heap_alloc_old _ _ (by simp; try omega)]
 exact alloc_nth2_1 w O0 O1
theorem alloc_nth3_2 (w : World) (O0 O1 O2 : Obj) : (((w.alloc O0).alloc O1).alloc O2).heap[w.heap.size + 1 + 1]? = some O2 := by
 have h := heap_alloc_new ((w.alloc O0).alloc O1) O2
 simpa using h
theorem alloc_nth4_0 (w : World) (O0 O1 O2 O3 : Obj) : ((((w.alloc O0).alloc O1).alloc O2).alloc O3).heap[w.heap.size]? = some O0 := by
 rw [heap_alloc_old _ _ (by simp; try omega)]
 exact alloc_nth3_0 w O0 O1 O2
theorem alloc_nth4_1 (w : World) (O0 O1 O2 O3 : Obj) : ((((w.alloc O0).alloc O1).alloc O2).alloc O3).heap[w.heap.size + 1]? = some O1 := by
 rw [heap_alloc_old _ _ (by simp; try omega)]
 exact alloc_nth3_1 w O0 O1 O2
theorem alloc_nth4_2 (w : World) (O0 O1 O2 O3 : Obj) : ((((w.alloc O0).alloc O1).alloc O2).alloc O3).heap[w.heap.size + 1 + 1]? = some O2 := by
 rw [heap_alloc_old _ _ (by simp; try omega)]
 exact alloc_nth3_2 w O0 O1 O2
theorem alloc_nth4_3 (w : World) (O0 O1 O2 O3 : Obj) : ((((w.alloc O0).alloc O1).alloc O2).alloc O3).heap[w.heap.size + 1 + 1 + 1]? = some O3 := by
 have h := heap_alloc_new (((w.alloc O0).alloc O1).alloc O2) O3
 simpa using h
theorem alloc_nth5_0 (w : World) (O0 O1 O2 O3 O4 : Obj) : (((((w.alloc O0).alloc O1).alloc O2).alloc O3).alloc O4).heap[w.heap.size]? = some O0 := by
 rw [heap_alloc_old _ _ (by simp; try omega)]
 exact alloc_nth4_0 w O0 O1 O2 O3
theorem alloc_nth5_1 (w : World) (O0 O1 O2 O3 O4 : Obj) : (((((w.alloc O0).alloc O1).alloc O2).alloc O3).alloc O4).heap[w.heap.size + 1]? = some O1 := by
 rw [heap_alloc_old _ _ (by simp; try omega)]
 exact alloc_nth4_1 w O0 O1 O2 O3
theorem alloc_nth5_2 (w : World) (O0 O1 O2 O3 O4 : Obj) : (((((w.alloc O0).alloc O1).alloc O2).alloc O3).alloc O4).heap[w.heap.size + 1 + 1]? = some O2 := by
 rw [heap_alloc_old _ _ (by simp; try omega)]
 exact alloc_nth4_2 w O0 O1 O2 O3
theorem alloc_nth5_3 (w : World) (O0 O1 O2 O3 O4 : Obj) : (((((w.alloc O0).alloc O1).alloc O2).alloc O3).alloc O4).heap[w.heap.size + 1 + 1 + 1]? = some O3 := by
 rw [heap_alloc_old _ _ (by simp; try omega)]
 exact alloc_nth4_3 w O0 O1 O2 O3
theorem alloc_nth5_4 (w : World) (O0 O1 O2 O3 O4 : Obj) : (((((w.alloc O0).alloc O1).alloc O2).alloc O3).alloc O4).heap[w.heap.size + 1 + 1 + 1 + 1]? = some O4 := by
 have h := heap_alloc_new ((((w.alloc O0).alloc O1).alloc O2).alloc O3) O4
 simpa using h
end Go.Proofs.YtfpaichdkddglabGreatDoor.Mem
namespace Go.Proofs.YtfpaichdkddglabGreatDoor.Lg
open Go.RowKit Go.Proofs.YtfpaichdkddglabGreatDoor.Mem Go.Proofs.YtfpaichdkddglabGreatDoor.Laws Go.Proofs.YtfpaichdkddglabGreatDoor.Bytes Go.Proofs.YtfpaichdkddglabGreatDoor.Sha Go.Proofs.YtfpaichdkddglabGreatDoor.Tr Go.Proofs.YtfpaichdkddglabGreatDoor.He
set_option linter.unusedVariables false
set_option linter.unusedSimpArgs false
def extend (l : List ByteArray) (hd : Hd) (t : List Hd) (h : Hd) (x : List ByteArray) : List ByteArray × Hd × Int :=
 if logOk l hd = true ∧ okH h = true ∧ h.n = ((l ++ x).length : Int) then
  if signed t h = true then
   if x.length = 0 then (l, hd, 3) else if eqH h (headOf (l ++ x)) = true then (l ++ x, h, 0) else (l, hd, 4)
  else (l, hd, 2)
 else (l, hd, 1)
theorem extend1 {l : List ByteArray} {hd : Hd} {h : Hd} {x : List ByteArray} (hk : ¬ (logOk l hd = true ∧ okH h = true ∧ h.n = ((l ++ x).length : Int))) (t : List Hd) : extend l hd t h x = (l, hd, 1) := by unfold extend; rw [if_neg hk]
theorem extend2 {l : List ByteArray} {hd : Hd} {t : List Hd} {h : Hd} {x : List ByteArray} (hk : logOk l hd = true ∧ okH h = true ∧ h.n = ((l ++ x).length : Int)) (hs : signed t h = false) : extend l hd t h x = (l, hd, 2) := by unfold extend; rw [if_pos hk, if_neg (by simp [hs])]
theorem extend3 {l : List ByteArray} {hd : Hd} {t : List Hd} {h : Hd} {x : List ByteArray} (hk : logOk l hd = true ∧ okH h = true ∧ h.n = ((l ++ x).length : Int)) (hs : signed t h = true) (hx : x.length = 0) : extend l hd t h x = (l, hd, 3) := by unfold extend; rw [if_pos hk, if_pos hs, if_pos hx]
theorem extend4 {l : List ByteArray} {hd : Hd} {t : List Hd} {h : Hd} {x : List ByteArray} (hk : logOk l hd = true ∧ okH h = true ∧ h.n = ((l ++ x).length : Int)) (hs : signed t h = true) (hx : ¬ x.length = 0) (he : eqH h (headOf (l ++ x)) = false) : extend l hd t h x = (l, hd, 4) := by unfold extend; rw [if_pos hk, if_pos hs, if_neg hx, if_neg (by simp [he])]
theorem extend0 {l : List ByteArray} {hd : Hd} {t : List Hd} {h : Hd} {x : List ByteArray} (hk : logOk l hd = true ∧ okH h = true ∧ h.n = ((l ++ x).length : Int)) (hs : signed t h = true) (hx : ¬ x.length = 0) (he : eqH h (headOf (l ++ x)) = true) : extend l hd t h x = (l ++ x, h, 0) := by unfold extend; rw [if_pos hk, if_pos hs, if_neg hx, if_pos he]
theorem size_app {l x : List ByteArray} {N : Nat} (h1 : ∀ s ∈ l, s.size ≤ N) (h2 : ∀ s ∈ x, s.size ≤ N) : ∀ s ∈ l ++ x, s.size ≤ N := by
 intro s hs
 rcases List.mem_append.1 hs with h | h
 ·
  exact h1 s h
 ·
  exact h2 s h
set_option maxRecDepth 1000000 in
set_option maxHeartbeats 8000000 in
theorem extend_spec (w : World) (v vt vx : Value) (l x : List ByteArray) (hd h : Hd) (t : List Hd) (hs : Sl w v (ss l)) (ht : Sh w vt t) (hsx : Sl w vx (ss x)) (hl : l.length ≤ 1000000000) (htl : t.length ≤ 1000000000) (hx : x.length ≤ 1000000000) (hz : ∀ s ∈ l, s.size ≤ 10000000000) (hzx : ∀ s ∈ x, s.size ≤ 10000000000) :
  Calls Tryz.prog 59 #[.agg #[v, .int .i64 hd.n, .string hd.r], vt, .agg #[.int .i64 h.n, .string h.r], vx] w fun e w' => ∃ v', e = .returned (.tuple #[.agg #[v', .int .i64 (extend l hd t h x).2.1.n, .string (extend l hd t h x).2.1.r], .int .i64 (extend l hd t h x).2.2]) ∧ Own w' w.heap.size w'.heap.size 9 v' (ss (extend l hd t h x).1) ∧ Below w.heap.size w w' := by
 obtain ⟨i0, hi, hz0, hz1, hz2⟩ := info_parts info9t
 have HS : Hid (Sl w v (ss l)) := hs
 have HSX : Hid (Sl w vx (ss x)) := hsx
 have HT : Hid (Sh w vt t) := ht
 obtain ⟨ao0, cap0, rfl, hc0⟩ := hs.form
 obtain ⟨ao1, cap1, rfl, hc1⟩ := hsx.form
 obtain ⟨ao2, cap2, rfl, hc2⟩ := ht.form
 simp only [ss_len] at *
 clear hs hsx ht
 have B0 : Hid (Below w.heap.size w w) := Below.refl _ _
 obtain ⟨W1, HW1, b1, y1, hS1, r_a1, r_h1, r_res1⟩ : ∃ X, Hid ((((w.alloc (.cells #[.slice ao0 l.length cap0, .int .i64 hd.n, .string hd.r] 37)).alloc (.cells #[.int .i64 h.n, .string h.r] 35)).alloc (.cells #[.slice none 0 0, .int .i64 0, .string ⟨#[]⟩] 37)) = X) ∧ Below w.heap.size w X ∧ w.heap.size + 3 ≤ X.heap.size ∧ Hid (X.heap.size = w.heap.size + 1 + 1 + 1) ∧ Hid (X.heap[w.heap.size]? = some (.cells #[.slice ao0 l.length cap0, .int .i64 hd.n, .string hd.r] 37 (0, 0))) ∧ Hid (X.heap[w.heap.size + 1]? = some (.cells #[.int .i64 h.n, .string h.r] 35 (0, 0))) ∧ Hid (X.heap[w.heap.size + 1 + 1]? = some (.cells #[.slice none 0 0, .int .i64 0, .string ⟨#[]⟩] 37 (0, 0))) := ⟨_, rfl, ((((Below.refl _ _).alloc (Nat.le_refl _) _).alloc (by simp) _).alloc (by simp; omega) _), by simp, by show _ = _; simp, (by show _ = _; exact alloc_nth3_0 w _ _ _), (by show _ = _; exact alloc_nth3_1 w _ _ _), (by show _ = _; exact alloc_nth3_2 w _ _ _)⟩
 have z1 : w.heap.size ≤ W1.heap.size := b1.size
 have B1 : Hid (Below w.heap.size w W1) := B0.out.trans (b1.mono B0.out.size)
 have hqA : ∀ W v1, Sl W v1 (ss l) → _ := fun W v1 h1 => logok_spec W v1 l hd h1 (by omega) hz
 have hqO : ∀ W v1, Sl W v1 (ss (l ++ x)) → _ := fun W v1 h1 => headOf_spec W v1 (l ++ x) h1 (by rw [List.length_append]; omega) (size_app hz hzx)
 have hqH : ∀ W, _ := fun W => ok_spec W h
 have hqS : ∀ W v1, Sh W v1 t → _ := fun W v1 h1 => signed_spec W v1 t h h1 (by omega)
 have hall : ((l ++ x).length : Int) = ((l.length + x.length : Nat) : Int) := by rw [List.length_append]
 have HALL : Hid (((l ++ x).length : Int) = ((l.length + x.length : Nat) : Int)) := hall
 clear hall
 obtain ⟨A, hA⟩ : ∃ A, logOk l hd = A := ⟨_, rfl⟩
 obtain ⟨C, hC⟩ : ∃ A, okH h = A := ⟨_, rfl⟩
 obtain ⟨D, hD⟩ : ∃ A, signed t h = A := ⟨_, rfl⟩
 obtain ⟨M, hM⟩ : ∃ A, headOf (l ++ x) = A := ⟨_, rfl⟩
 obtain ⟨E, hE⟩ : ∃ A, eqH h M = A := ⟨_, rfl⟩
 have e1 : ∀ W, _ := fun W => neqH W h M
 have e2 : ∀ W op y z xs ys, _ := fun W op y z xs ys => grdH W op y z xs ys
 simp only [hA] at hqA
 simp only [hC] at hqH
 simp only [hD] at hqS
 simp only [hM] at hqO
 simp only [hE] at e1
 have HA : Hid (logOk l hd = A) := hA
 have HC : Hid (okH h = C) := hC
 have HD : Hid (signed t h = D) := hD
 have HE : Hid (eqH h (headOf (l ++ x)) = E) := by show _ = _; rw [hM]; exact hE
 clear hA hC hD hM hE hz hzx
 obtain ⟨R, hR⟩ : ∃ R, extend l hd t h x = R := ⟨_, rfl⟩
 have HR : Hid (extend l hd t h x = R) := hR
 rw [hR]
 clear hR
 go_enter Tryz.func59, Tryz.ntmps59
 go_wp2_with fail
 rw [HW1.out]
 refine (copy_spec W1 _ l hd (HS.out.later B1.out) hl).mono ?_
 rintro e W2 ⟨v_s, rfl, o_s2, b2⟩
 obtain ⟨ao_s, L_s, cap_s, rfl, hL_s, hM_s⟩ := o_s2.form
 have o_s2 : Hid (Own W2 W1.heap.size W2.heap.size 9 (.slice ao_s L_s cap_s) (ss l)) := o_s2
 clear hL_s hM_s
 have z2 : W1.heap.size ≤ W2.heap.size := b2.size
 have B2 : Hid (Below w.heap.size w W2) := B1.out.trans (b2.mono B1.out.size)
 have r_a2 : Hid (W2.heap[w.heap.size]? = some (.cells #[.slice ao0 l.length cap0, .int .i64 hd.n, .string hd.r] 37 (0, 0))) := rowKeep r_a1.out b2
 have r_h2 : Hid (W2.heap[w.heap.size + 1]? = some (.cells #[.int .i64 h.n, .string h.r] 35 (0, 0))) := rowKeep r_h1.out b2
 have r_res2 : Hid (W2.heap[w.heap.size + 1 + 1]? = some (.cells #[.slice none 0 0, .int .i64 0, .string ⟨#[]⟩] 37 (0, 0))) := rowKeep r_res1.out b2
 clear r_a1 r_h1 r_res1
 obtain ⟨W3, HW3, b3, y3, hS3, r_same3⟩ : ∃ X, Hid ((W2.alloc (.cells #[.slice ao_s L_s cap_s, .int .i64 hd.n, .string hd.r] 37)) = X) ∧ Below W2.heap.size W2 X ∧ W2.heap.size + 1 ≤ X.heap.size ∧ Hid (X.heap.size = W2.heap.size + 1) ∧ Hid (X.heap[W2.heap.size]? = some (.cells #[.slice ao_s L_s cap_s, .int .i64 hd.n, .string hd.r] 37 (0, 0))) := ⟨_, rfl, ((Below.refl _ _).alloc (Nat.le_refl _) _), by simp, by show _ = _; simp, (by show _ = _; exact alloc_nth1_0 W2 _)⟩
 have z3 : W2.heap.size ≤ W3.heap.size := b3.size
 have B3 : Hid (Below w.heap.size w W3) := B2.out.trans (b3.mono B2.out.size)
 have r_a3 : Hid (W3.heap[w.heap.size]? = some (.cells #[.slice ao0 l.length cap0, .int .i64 hd.n, .string hd.r] 37 (0, 0))) := rowKeep r_a2.out b3
 have r_h3 : Hid (W3.heap[w.heap.size + 1]? = some (.cells #[.int .i64 h.n, .string h.r] 35 (0, 0))) := rowKeep r_h2.out b3
 have r_res3 : Hid (W3.heap[w.heap.size + 1 + 1]? = some (.cells #[.slice none 0 0, .int .i64 0, .string ⟨#[]⟩] 37 (0, 0))) := rowKeep r_res2.out b3
 have o_s3 : Hid (Own W3 (W1.heap.size) (W2.heap.size) 9 (.slice ao_s L_s cap_s) (ss l)) := Own.later o_s2.out b3 (by omega)
 have c_a3_0 : W3.cell? ⟨w.heap.size, 0, none⟩ = some (.slice ao0 l.length cap0) := row_at r_a3.out 0
 have a_a3_0 : ∀ o, (W3.alloc o).cell? ⟨w.heap.size, 0, none⟩ = some (.slice ao0 l.length cap0) := fun o => keepR c_a3_0 ((Below.refl _ _).alloc (Nat.le_refl _) o)
 have c_a3_1 : W3.cell? ⟨w.heap.size, 1, none⟩ = some (.int .i64 hd.n) := row_at r_a3.out 1
 have a_a3_1 : ∀ o, (W3.alloc o).cell? ⟨w.heap.size, 1, none⟩ = some (.int .i64 hd.n) := fun o => keepR c_a3_1 ((Below.refl _ _).alloc (Nat.le_refl _) o)
 have c_a3_2 : W3.cell? ⟨w.heap.size, 2, none⟩ = some (.string hd.r) := row_at r_a3.out 2
 have a_a3_2 : ∀ o, (W3.alloc o).cell? ⟨w.heap.size, 2, none⟩ = some (.string hd.r) := fun o => keepR c_a3_2 ((Below.refl _ _).alloc (Nat.le_refl _) o)
 have c_h3_0 : W3.cell? ⟨w.heap.size + 1, 0, none⟩ = some (.int .i64 h.n) := row_at r_h3.out 0
 have a_h3_0 : ∀ o, (W3.alloc o).cell? ⟨w.heap.size + 1, 0, none⟩ = some (.int .i64 h.n) := fun o => keepR c_h3_0 ((Below.refl _ _).alloc (Nat.le_refl _) o)
 have c_h3_1 : W3.cell? ⟨w.heap.size + 1, 1, none⟩ = some (.string h.r) := row_at r_h3.out 1
 have a_h3_1 : ∀ o, (W3.alloc o).cell? ⟨w.heap.size + 1, 1, none⟩ = some (.string h.r) := fun o => keepR c_h3_1 ((Below.refl _ _).alloc (Nat.le_refl _) o)
 have c_res3_0 : W3.cell? ⟨w.heap.size + 1 + 1, 0, none⟩ = some (.slice none 0 0) := row_at r_res3.out 0
 have a_res3_0 : ∀ o, (W3.alloc o).cell? ⟨w.heap.size + 1 + 1, 0, none⟩ = some (.slice none 0 0) := fun o => keepR c_res3_0 ((Below.refl _ _).alloc (Nat.le_refl _) o)
 have c_res3_1 : W3.cell? ⟨w.heap.size + 1 + 1, 1, none⟩ = some (.int .i64 0) := row_at r_res3.out 1
 have a_res3_1 : ∀ o, (W3.alloc o).cell? ⟨w.heap.size + 1 + 1, 1, none⟩ = some (.int .i64 0) := fun o => keepR c_res3_1 ((Below.refl _ _).alloc (Nat.le_refl _) o)
 have c_res3_2 : W3.cell? ⟨w.heap.size + 1 + 1, 2, none⟩ = some (.string ⟨#[]⟩) := row_at r_res3.out 2
 have a_res3_2 : ∀ o, (W3.alloc o).cell? ⟨w.heap.size + 1 + 1, 2, none⟩ = some (.string ⟨#[]⟩) := fun o => keepR c_res3_2 ((Below.refl _ _).alloc (Nat.le_refl _) o)
 have c_same3_0 : W3.cell? ⟨W2.heap.size, 0, none⟩ = some (.slice ao_s L_s cap_s) := row_at r_same3.out 0
 have a_same3_0 : ∀ o, (W3.alloc o).cell? ⟨W2.heap.size, 0, none⟩ = some (.slice ao_s L_s cap_s) := fun o => keepR c_same3_0 ((Below.refl _ _).alloc (Nat.le_refl _) o)
 have c_same3_1 : W3.cell? ⟨W2.heap.size, 1, none⟩ = some (.int .i64 hd.n) := row_at r_same3.out 1
 have a_same3_1 : ∀ o, (W3.alloc o).cell? ⟨W2.heap.size, 1, none⟩ = some (.int .i64 hd.n) := fun o => keepR c_same3_1 ((Below.refl _ _).alloc (Nat.le_refl _) o)
 have c_same3_2 : W3.cell? ⟨W2.heap.size, 2, none⟩ = some (.string hd.r) := row_at r_same3.out 2
 have a_same3_2 : ∀ o, (W3.alloc o).cell? ⟨W2.heap.size, 2, none⟩ = some (.string hd.r) := fun o => keepR c_same3_2 ((Below.refl _ _).alloc (Nat.le_refl _) o)
 clear r_a2 r_h2 r_res2 o_s2
 have aa_a3_0 := a_a3_0
 rw [← HW3.out] at aa_a3_0
 have aa_a3_1 := a_a3_1
 rw [← HW3.out] at aa_a3_1
 have aa_a3_2 := a_a3_2
 rw [← HW3.out] at aa_a3_2
 have aa_h3_0 := a_h3_0
 rw [← HW3.out] at aa_h3_0
 have aa_h3_1 := a_h3_1
 rw [← HW3.out] at aa_h3_1
 have aa_res3_0 := a_res3_0
 rw [← HW3.out] at aa_res3_0
 have aa_res3_1 := a_res3_1
 rw [← HW3.out] at aa_res3_1
 have aa_res3_2 := a_res3_2
 rw [← HW3.out] at aa_res3_2
 have aa_same3_0 := a_same3_0
 rw [← HW3.out] at aa_same3_0
 have aa_same3_1 := a_same3_1
 rw [← HW3.out] at aa_same3_1
 have aa_same3_2 := a_same3_2
 rw [← HW3.out] at aa_same3_2
 have oE4 : Hid (Own (W3.alloc (.cells #[] 9)) W3.heap.size (W3.alloc (.cells #[] 9)).heap.size 9 (.slice (some ⟨W2.heap.size + 1, 0, none⟩) 0 0) (ss [])) := by show Own _ _ _ _ _ _; have h := emptyT W3 W3.heap.size (Nat.le_refl _); rw [hS3.out] at h ⊢; exact h
 have c6_4 : (ss []).length + (ss l).length ≤ maxLen := (by rw [ss_len, ss_len]; unfold maxLen; (try simp only [List.length_nil]); omega)
 have c7_4 : ((ss []).length + (ss l).length) * 16 ≤ 140737488355328 := (by rw [ss_len, ss_len]; (try simp only [List.length_nil]); omega)
 have sE4 : Hid (Sl (W3.alloc (.cells #[] 9)) _ (ss l)) := HS.out.later (B3.out.alloc B3.out.size _)
 go_wp2_with (at_builtin; rw [HW3.out]; go_must (refine wpl_app _ rfl (.tmp 14) (.tmp 16) 22 rfl 9 i0 (.string ⟨#[]⟩) 16 Tryz.underlying22 hi hz0 hz1 hz2 rfl (W3.heap.size) _ (ss []) rfl oE4.out _ rfl (ss l) sE4.out (ss_one l) c6_4 c7_4 (by simp) ?_))
 intro v_p W4 o_p4 q4 _
 clear aa_a3_0 aa_a3_1 aa_a3_2 aa_h3_0 aa_h3_1 aa_res3_0 aa_res3_1 aa_res3_2 aa_same3_0 aa_same3_1 aa_same3_2
 have b4 : Below W3.heap.size W3 W4 := ((Below.refl _ _).alloc (Nat.le_refl _) _).trans q4
 obtain ⟨ao_p, L_p, cap_p, rfl, _, _⟩ := o_p4.form
 have o_p4 : Hid (Own W4 (W3.heap.size) W4.heap.size 9 (.slice ao_p L_p cap_p) (ss l)) := o_p4
 clear q4 oE4 sE4 c6_4 c7_4
 have z4 : W3.heap.size ≤ W4.heap.size := b4.size
 have B4 : Hid (Below w.heap.size w W4) := B3.out.trans (b4.mono B3.out.size)
 have r_a4 : Hid (W4.heap[w.heap.size]? = some (.cells #[.slice ao0 l.length cap0, .int .i64 hd.n, .string hd.r] 37 (0, 0))) := rowKeep r_a3.out b4
 have r_h4 : Hid (W4.heap[w.heap.size + 1]? = some (.cells #[.int .i64 h.n, .string h.r] 35 (0, 0))) := rowKeep r_h3.out b4
 have r_res4 : Hid (W4.heap[w.heap.size + 1 + 1]? = some (.cells #[.slice none 0 0, .int .i64 0, .string ⟨#[]⟩] 37 (0, 0))) := rowKeep r_res3.out b4
 have r_same4 : Hid (W4.heap[W2.heap.size]? = some (.cells #[.slice ao_s L_s cap_s, .int .i64 hd.n, .string hd.r] 37 (0, 0))) := rowKeep r_same3.out b4
 have o_s4 : Hid (Own W4 (W1.heap.size) (W2.heap.size) 9 (.slice ao_s L_s cap_s) (ss l)) := Own.later o_s3.out b4 (by omega)
 clear r_a3 c_a3_0 c_a3_1 c_a3_2 a_a3_0 a_a3_1 a_a3_2 r_h3 c_h3_0 c_h3_1 a_h3_0 a_h3_1 r_res3 c_res3_0 c_res3_1 c_res3_2 a_res3_0 a_res3_1 a_res3_2 r_same3 c_same3_0 c_same3_1 c_same3_2 a_same3_0 a_same3_1 a_same3_2 o_s3
 have c6_5 : (ss l).length + (ss x).length ≤ maxLen := (by rw [ss_len, ss_len]; unfold maxLen; (try simp only [List.length_nil]); omega)
 have c7_5 : ((ss l).length + (ss x).length) * 16 ≤ 140737488355328 := (by rw [ss_len, ss_len]; (try simp only [List.length_nil]); omega)
 have sE5 : Hid (Sl W4 _ (ss x)) := HSX.out.later B4.out
 go_wp2_with (at_builtin; go_must (refine wpl_app _ rfl (.tmp 17) (.tmp 18) 22 rfl 9 i0 (.string ⟨#[]⟩) 16 Tryz.underlying22 hi hz0 hz1 hz2 rfl (W3.heap.size) _ (ss l) rfl (Own.mono o_p4.out (Nat.le_refl _) (by omega)) _ rfl (ss x) sE5.out (ss_one x) c6_5 c7_5 (by omega) ?_))
 intro v_all W5 o_all5 q5 _
 obtain ⟨ao_all, L_all, cap_all, rfl, _, _⟩ := o_all5.form
 have o_all5 : Hid (Own W5 (W3.heap.size) W5.heap.size 9 (.slice ao_all L_all cap_all) (ss (l ++ x))) := by show Own _ _ _ _ _ _; rw [ss_app]; exact o_all5
 have z5 : W4.heap.size ≤ W5.heap.size := q5.size
 have B5 : Hid (Below w.heap.size w W5) := B4.out.trans (q5.mono (by have := B4.out.size; omega))
 have r_a5 : Hid (W5.heap[w.heap.size]? = some (.cells #[.slice ao0 l.length cap0, .int .i64 hd.n, .string hd.r] 37 (0, 0))) := (q5.block (w.heap.size) (by omega)).trans r_a4.out
 have r_h5 : Hid (W5.heap[w.heap.size + 1]? = some (.cells #[.int .i64 h.n, .string h.r] 35 (0, 0))) := (q5.block (w.heap.size + 1) (by omega)).trans r_h4.out
 have r_res5 : Hid (W5.heap[w.heap.size + 1 + 1]? = some (.cells #[.slice none 0 0, .int .i64 0, .string ⟨#[]⟩] 37 (0, 0))) := (q5.block (w.heap.size + 1 + 1) (by omega)).trans r_res4.out
 have r_same5 : Hid (W5.heap[W2.heap.size]? = some (.cells #[.slice ao_s L_s cap_s, .int .i64 hd.n, .string hd.r] 37 (0, 0))) := (q5.block (W2.heap.size) (by omega)).trans r_same4.out
 have o_s5 : Hid (Own W5 (W1.heap.size) (W2.heap.size) 9 (.slice ao_s L_s cap_s) (ss l)) := Own.later o_s4.out q5 (by omega)
 have c_a5_0 : W5.cell? ⟨w.heap.size, 0, none⟩ = some (.slice ao0 l.length cap0) := row_at r_a5.out 0
 have c_a5_1 : W5.cell? ⟨w.heap.size, 1, none⟩ = some (.int .i64 hd.n) := row_at r_a5.out 1
 have c_a5_2 : W5.cell? ⟨w.heap.size, 2, none⟩ = some (.string hd.r) := row_at r_a5.out 2
 clear r_a4 r_h4 r_res4 r_same4 o_s4 o_p4
 clear q5 sE5 c6_5 c7_5
 have hLall : L_all ≤ l.length + x.length ∧ l.length + x.length ≤ L_all := by obtain ⟨a9, L9, c9, he, h1, h2⟩ := Mem.Own.form o_all5.out; injection he with _ he2 _; rw [ss_len, List.length_append] at h1 h2; omega
 go_wp2_with fail
 refine (hqA W5 _ (HS.out.later B5.out)).mono ?_
 rintro e W6 ⟨rfl, b6⟩
 have z6 : W5.heap.size ≤ W6.heap.size := b6.size
 have B6 : Hid (Below w.heap.size w W6) := B5.out.trans (b6.mono B5.out.size)
 have r_h6 : Hid (W6.heap[w.heap.size + 1]? = some (.cells #[.int .i64 h.n, .string h.r] 35 (0, 0))) := rowKeep r_h5.out b6
 have r_res6 : Hid (W6.heap[w.heap.size + 1 + 1]? = some (.cells #[.slice none 0 0, .int .i64 0, .string ⟨#[]⟩] 37 (0, 0))) := rowKeep r_res5.out b6
 have r_same6 : Hid (W6.heap[W2.heap.size]? = some (.cells #[.slice ao_s L_s cap_s, .int .i64 hd.n, .string hd.r] 37 (0, 0))) := rowKeep r_same5.out b6
 have o_s6 : Hid (Own W6 (W1.heap.size) (W2.heap.size) 9 (.slice ao_s L_s cap_s) (ss l)) := Own.later o_s5.out b6 (by omega)
 have o_all6 : Hid (Own W6 (W3.heap.size) (W5.heap.size) 9 (.slice ao_all L_all cap_all) (ss (l ++ x))) := Own.later o_all5.out b6 (by omega)
 have c_h6_0 : W6.cell? ⟨w.heap.size + 1, 0, none⟩ = some (.int .i64 h.n) := row_at r_h6.out 0
 have c_h6_1 : W6.cell? ⟨w.heap.size + 1, 1, none⟩ = some (.string h.r) := row_at r_h6.out 1
 clear r_a5 c_a5_0 c_a5_1 c_a5_2 r_h5 r_res5 r_same5 o_s5 o_all5
 cases A
 ·
  have hA := HA.out
  have HN : Hid (R = (l, hd, 1)) := by show _ = _; rw [← HR.out]; exact extend1 (fun hk => by rw [hA] at hk; exact absurd hk.1 (by simp)) t
  go_wp2_with (first | (refine wpList_load_row rfl 37 _ rfl (W2.heap.size) rfl 37 (lc (.slice ao_s L_s cap_s) hd) (0, 0) _ r_same6.out Tryz.underlying37 rfl (sizeL _ _) ?_) | (refine wpList_store_row rfl 37 _ _ rfl (w.heap.size + 1 + 1) (lc (.slice ao_s L_s cap_s) hd) rfl rfl 37 _ r_res6.out (sizeL _ _) rfl (oneL _ rfl) ?_))
  refine bodyPost_ret (res_row_tmp rfl _ _ (w.heap.size + 1 + 1) 37 (lc (.slice ao_s L_s cap_s) hd) (0, 0) _ rfl (setRow_heap _ _ _ _ _ (0, 0) r_res6.out) Tryz.underlying37 rfl (sizeL _ _)) rfl ⟨.slice ao_s L_s cap_s, by rw [HN.out]; rfl, ?_, below_setRow B6.out (by omega) _⟩
  rw [HN.out]
  exact (Own.setRow o_s6.out _ (by omega)).mono (by omega) (by rw [size_setRow]; omega)
 ·
  go_wp2_with fail
  refine (hqH W6).mono ?_
  rintro e W7 ⟨rfl, b7⟩
  have z7 : W6.heap.size ≤ W7.heap.size := b7.size
  have B7 : Hid (Below w.heap.size w W7) := B6.out.trans (b7.mono B6.out.size)
  have r_h7 : Hid (W7.heap[w.heap.size + 1]? = some (.cells #[.int .i64 h.n, .string h.r] 35 (0, 0))) := rowKeep r_h6.out b7
  have r_res7 : Hid (W7.heap[w.heap.size + 1 + 1]? = some (.cells #[.slice none 0 0, .int .i64 0, .string ⟨#[]⟩] 37 (0, 0))) := rowKeep r_res6.out b7
  have r_same7 : Hid (W7.heap[W2.heap.size]? = some (.cells #[.slice ao_s L_s cap_s, .int .i64 hd.n, .string hd.r] 37 (0, 0))) := rowKeep r_same6.out b7
  have o_s7 : Hid (Own W7 (W1.heap.size) (W2.heap.size) 9 (.slice ao_s L_s cap_s) (ss l)) := Own.later o_s6.out b7 (by omega)
  have o_all7 : Hid (Own W7 (W3.heap.size) (W5.heap.size) 9 (.slice ao_all L_all cap_all) (ss (l ++ x))) := Own.later o_all6.out b7 (by omega)
  have c_h7_0 : W7.cell? ⟨w.heap.size + 1, 0, none⟩ = some (.int .i64 h.n) := row_at r_h7.out 0
  have c_h7_1 : W7.cell? ⟨w.heap.size + 1, 1, none⟩ = some (.string h.r) := row_at r_h7.out 1
  clear r_h6 c_h6_0 c_h6_1 r_res6 r_same6 o_s6 o_all6
  cases C
  ·
   have hC := HC.out
   have HN : Hid (R = (l, hd, 1)) := by show _ = _; rw [← HR.out]; exact extend1 (fun hk => by rw [hC] at hk; exact absurd hk.2.1 (by simp)) t
   go_wp2_with (first | (refine wpList_load_row rfl 37 _ rfl (W2.heap.size) rfl 37 (lc (.slice ao_s L_s cap_s) hd) (0, 0) _ r_same7.out Tryz.underlying37 rfl (sizeL _ _) ?_) | (refine wpList_store_row rfl 37 _ _ rfl (w.heap.size + 1 + 1) (lc (.slice ao_s L_s cap_s) hd) rfl rfl 37 _ r_res7.out (sizeL _ _) rfl (oneL _ rfl) ?_))
   refine bodyPost_ret (res_row_tmp rfl _ _ (w.heap.size + 1 + 1) 37 (lc (.slice ao_s L_s cap_s) hd) (0, 0) _ rfl (setRow_heap _ _ _ _ _ (0, 0) r_res7.out) Tryz.underlying37 rfl (sizeL _ _)) rfl ⟨.slice ao_s L_s cap_s, by rw [HN.out]; rfl, ?_, below_setRow B7.out (by omega) _⟩
   rw [HN.out]
   exact (Own.setRow o_s7.out _ (by omega)).mono (by omega) (by rw [size_setRow]; omega)
  ·
   by_cases hn : h.n = (L_all : Int)
   ·
    have hk : logOk l hd = true ∧ okH h = true ∧ h.n = ((l ++ x).length : Int) := ⟨HA.out, HC.out, by rw [HALL.out, hn]; omega⟩
    have HK : Hid (logOk l hd = true ∧ okH h = true ∧ h.n = ((l ++ x).length : Int)) := hk
    have nn : (h.n != (L_all : Int)) = false := by simp [hn]
    clear hk hn
    go_wp2_with fail
    refine (hqS W7 _ (HT.out.later B7.out)).mono ?_
    rintro e W8 ⟨rfl, b8⟩
    have z8 : W7.heap.size ≤ W8.heap.size := b8.size
    have B8 : Hid (Below w.heap.size w W8) := B7.out.trans (b8.mono B7.out.size)
    have r_h8 : Hid (W8.heap[w.heap.size + 1]? = some (.cells #[.int .i64 h.n, .string h.r] 35 (0, 0))) := rowKeep r_h7.out b8
    have r_res8 : Hid (W8.heap[w.heap.size + 1 + 1]? = some (.cells #[.slice none 0 0, .int .i64 0, .string ⟨#[]⟩] 37 (0, 0))) := rowKeep r_res7.out b8
    have r_same8 : Hid (W8.heap[W2.heap.size]? = some (.cells #[.slice ao_s L_s cap_s, .int .i64 hd.n, .string hd.r] 37 (0, 0))) := rowKeep r_same7.out b8
    have o_s8 : Hid (Own W8 (W1.heap.size) (W2.heap.size) 9 (.slice ao_s L_s cap_s) (ss l)) := Own.later o_s7.out b8 (by omega)
    have o_all8 : Hid (Own W8 (W3.heap.size) (W5.heap.size) 9 (.slice ao_all L_all cap_all) (ss (l ++ x))) := Own.later o_all7.out b8 (by omega)
    have c_h8_0 : W8.cell? ⟨w.heap.size + 1, 0, none⟩ = some (.int .i64 h.n) := row_at r_h8.out 0
    have c_h8_1 : W8.cell? ⟨w.heap.size + 1, 1, none⟩ = some (.string h.r) := row_at r_h8.out 1
    clear r_h7 c_h7_0 c_h7_1 r_res7 r_same7 o_s7 o_all7
    cases D
    ·
     have HN : Hid (R = (l, hd, 2)) := by show _ = _; rw [← HR.out]; exact extend2 HK.out HD.out
     go_wp2_with (first | (refine wpList_load_row rfl 37 _ rfl (W2.heap.size) rfl 37 (lc (.slice ao_s L_s cap_s) hd) (0, 0) _ r_same8.out Tryz.underlying37 rfl (sizeL _ _) ?_) | (refine wpList_store_row rfl 37 _ _ rfl (w.heap.size + 1 + 1) (lc (.slice ao_s L_s cap_s) hd) rfl rfl 37 _ r_res8.out (sizeL _ _) rfl (oneL _ rfl) ?_))
     refine bodyPost_ret (res_row_tmp rfl _ _ (w.heap.size + 1 + 1) 37 (lc (.slice ao_s L_s cap_s) hd) (0, 0) _ rfl (setRow_heap _ _ _ _ _ (0, 0) r_res8.out) Tryz.underlying37 rfl (sizeL _ _)) rfl ⟨.slice ao_s L_s cap_s, by rw [HN.out]; rfl, ?_, below_setRow B8.out (by omega) _⟩
     rw [HN.out]
     exact (Own.setRow o_s8.out _ (by omega)).mono (by omega) (by rw [size_setRow]; omega)
    ·
     by_cases hx0 : x.length = 0
     ·
      have gx : (x.length : Int) = 0 := by omega
      have HX0 : Hid (x.length = 0) := hx0
      clear hx0
      have HN : Hid (R = (l, hd, 3)) := by show _ = _; rw [← HR.out]; exact extend3 HK.out HD.out HX0.out
      go_wp2_with (first | (refine wpList_load_row rfl 37 _ rfl (W2.heap.size) rfl 37 (lc (.slice ao_s L_s cap_s) hd) (0, 0) _ r_same8.out Tryz.underlying37 rfl (sizeL _ _) ?_) | (refine wpList_store_row rfl 37 _ _ rfl (w.heap.size + 1 + 1) (lc (.slice ao_s L_s cap_s) hd) rfl rfl 37 _ r_res8.out (sizeL _ _) rfl (oneL _ rfl) ?_))
      refine bodyPost_ret (res_row_tmp rfl _ _ (w.heap.size + 1 + 1) 37 (lc (.slice ao_s L_s cap_s) hd) (0, 0) _ rfl (setRow_heap _ _ _ _ _ (0, 0) r_res8.out) Tryz.underlying37 rfl (sizeL _ _)) rfl ⟨.slice ao_s L_s cap_s, by rw [HN.out]; rfl, ?_, below_setRow B8.out (by omega) _⟩
      rw [HN.out]
      exact (Own.setRow o_s8.out _ (by omega)).mono (by omega) (by rw [size_setRow]; omega)
     ·
      have gx : ¬ (x.length : Int) = 0 := by omega
      go_wp2_with fail
      refine wp_region_held_drew (S := fun w' => w'.cell? ⟨w.heap.size + 1, 0, none⟩ = some (.int .i64 h.n) ∧ w'.cell? ⟨w.heap.size + 1, 1, none⟩ = some (.string h.r)) (by kernel_rfl) ⟨c_h8_0, c_h8_1⟩ (fun hHeld => ?_)
      (refine wpAnyH_take (i := 0) (v := ?v0x1) rfl (by kernel_rfl) (by kernel_rfl) (by kernel_rfl) (fun _ _ _ h => h) (Or.inl ⟨by rfl, ?hy0x1⟩) (by assumption) ?rest0x1; case hy0x1 => (intro w hSw; (try dsimp only at hSw); go_split_ands; go_simp; (try with_reducible rfl)))
      try simp only [Act.put, pu1, pu2, pu3, pu4, pu5, pu6]
      (refine wpAnyH_take (i := 1) (v := ?v1x2) rfl (by kernel_rfl) (by kernel_rfl) (by kernel_rfl) (fun _ _ _ h => h) (Or.inl ⟨by rfl, ?hy1x2⟩) (by assumption) ?rest1x2; case hy1x2 => (intro w hSw; (try dsimp only at hSw); go_split_ands; go_simp; (try with_reducible rfl)))
      try simp only [Act.put, pu1, pu2, pu3, pu4, pu5, pu6]
      refine wpAnyH_ready (rs := [2]) (by kernel_rfl) (by simp) ?_
      refine AllReadyH.cons rfl (fun K hK => ?_) AllReadyH.nil
      go_simp
      refine (hqO W8.drew _ (Own.sl (w := W8.drew) o_all8.out)).mono ?_
      rintro e W9 ⟨rfl, b9⟩
      have b9 : Below W8.heap.size W8 W9 := (Below.drew (Below.refl _ _)).trans b9
      refine hK.out _ _ ⟨keepR (W := W8) hHeld.1 b9, keepR (W := W8) hHeld.2 b9⟩ (fun hHeld => ?_)
      clear hK K
      try simp only [Act.put, pu1, pu2, pu3, pu4, pu5, pu6]
      have z9 : W8.heap.size ≤ W9.heap.size := b9.size
      have B9 : Hid (Below w.heap.size w W9) := B8.out.trans (b9.mono B8.out.size)
      have r_h9 : Hid (W9.heap[w.heap.size + 1]? = some (.cells #[.int .i64 h.n, .string h.r] 35 (0, 0))) := rowKeep r_h8.out b9
      have r_res9 : Hid (W9.heap[w.heap.size + 1 + 1]? = some (.cells #[.slice none 0 0, .int .i64 0, .string ⟨#[]⟩] 37 (0, 0))) := rowKeep r_res8.out b9
      have r_same9 : Hid (W9.heap[W2.heap.size]? = some (.cells #[.slice ao_s L_s cap_s, .int .i64 hd.n, .string hd.r] 37 (0, 0))) := rowKeep r_same8.out b9
      have o_s9 : Hid (Own W9 (W1.heap.size) (W2.heap.size) 9 (.slice ao_s L_s cap_s) (ss l)) := Own.later o_s8.out b9 (by omega)
      have o_all9 : Hid (Own W9 (W3.heap.size) (W5.heap.size) 9 (.slice ao_all L_all cap_all) (ss (l ++ x))) := Own.later o_all8.out b9 (by omega)
      have c_h9_0 : W9.cell? ⟨w.heap.size + 1, 0, none⟩ = some (.int .i64 h.n) := row_at r_h9.out 0
      have c_h9_1 : W9.cell? ⟨w.heap.size + 1, 1, none⟩ = some (.string h.r) := row_at r_h9.out 1
      clear r_h8 c_h8_0 c_h8_1 r_res8 r_same8 o_s8 o_all8
      (refine wpAnyH_take (i := 3) (v := ?v3x3) rfl (by kernel_rfl) (by kernel_rfl) (by kernel_rfl) (fun _ _ _ h => h) (Or.inl ⟨by rfl, ?hy3x3⟩) (by assumption) ?rest3x3; case hy3x3 => (intro w hSw; (try dsimp only at hSw); go_split_ands; go_simp; (try with_reducible rfl)))
      try simp only [Act.put, pu1, pu2, pu3, pu4, pu5, pu6]
      (refine wpAnyH_take (i := 4) (v := ?v4x4) rfl (by kernel_rfl) (by kernel_rfl) (by kernel_rfl) (fun _ _ _ h => h) (Or.inl ⟨by rfl, ?hy4x4⟩) (by assumption) ?rest4x4; case hy4x4 => (intro w hSw; (try dsimp only at hSw); go_split_ands; go_simp; (try with_reducible rfl)))
      try simp only [Act.put, pu1, pu2, pu3, pu4, pu5, pu6]
      refine wpAnyH_done (by kernel_rfl) ?_ _
      clear hHeld
      cases E
      ·
       have HN : Hid (R = (l, hd, 4)) := by show _ = _; rw [← HR.out]; exact extend4 HK.out HD.out hx0 HE.out
       go_wp2_with (first | (refine wpList_load_row rfl 37 _ rfl (W2.heap.size) rfl 37 (lc (.slice ao_s L_s cap_s) hd) (0, 0) _ r_same9.out Tryz.underlying37 rfl (sizeL _ _) ?_) | (refine wpList_store_row rfl 37 _ _ rfl (w.heap.size + 1 + 1) (lc (.slice ao_s L_s cap_s) hd) rfl rfl 37 _ r_res9.out (sizeL _ _) rfl (oneL _ rfl) ?_))
       refine bodyPost_ret (res_row_tmp rfl _ _ (w.heap.size + 1 + 1) 37 (lc (.slice ao_s L_s cap_s) hd) (0, 0) _ rfl (setRow_heap _ _ _ _ _ (0, 0) r_res9.out) Tryz.underlying37 rfl (sizeL _ _)) rfl ⟨.slice ao_s L_s cap_s, by rw [HN.out]; rfl, ?_, below_setRow B9.out (by omega) _⟩
       rw [HN.out]
       exact (Own.setRow o_s9.out _ (by omega)).mono (by omega) (by rw [size_setRow]; omega)
      ·
       have HN : Hid (R = (l ++ x, h, 0)) := by show _ = _; rw [← HR.out]; exact extend0 HK.out HD.out hx0 HE.out
       go_wp2_with (refine wpList_store_row rfl 37 _ _ rfl (w.heap.size + 1 + 1) (lc (.slice ao_all L_all cap_all) h) rfl rfl 37 _ r_res9.out (sizeL _ _) rfl (oneL _ rfl) ?_)
       refine bodyPost_ret (res_row_tmp rfl _ _ (w.heap.size + 1 + 1) 37 (lc (.slice ao_all L_all cap_all) h) (0, 0) _ rfl (setRow_heap _ _ _ _ _ (0, 0) r_res9.out) Tryz.underlying37 rfl (sizeL _ _)) rfl ⟨.slice ao_all L_all cap_all, by rw [HN.out]; rfl, ?_, below_setRow B9.out (by omega) _⟩
       rw [HN.out]
       exact (Own.setRow o_all9.out _ (by omega)).mono (by omega) (by rw [size_setRow]; omega)
   ·
    have nn : (h.n != (L_all : Int)) = true := by simp [hn]
    have HN : Hid (R = (l, hd, 1)) := by show _ = _; rw [← HR.out]; exact extend1 (fun hk => hn (by rw [hk.2.2, HALL.out]; omega)) t
    go_wp2_with (first | (refine wpList_load_row rfl 37 _ rfl (W2.heap.size) rfl 37 (lc (.slice ao_s L_s cap_s) hd) (0, 0) _ r_same7.out Tryz.underlying37 rfl (sizeL _ _) ?_) | (refine wpList_store_row rfl 37 _ _ rfl (w.heap.size + 1 + 1) (lc (.slice ao_s L_s cap_s) hd) rfl rfl 37 _ r_res7.out (sizeL _ _) rfl (oneL _ rfl) ?_))
    refine bodyPost_ret (res_row_tmp rfl _ _ (w.heap.size + 1 + 1) 37 (lc (.slice ao_s L_s cap_s) hd) (0, 0) _ rfl (setRow_heap _ _ _ _ _ (0, 0) r_res7.out) Tryz.underlying37 rfl (sizeL _ _)) rfl ⟨.slice ao_s L_s cap_s, by rw [HN.out]; rfl, ?_, below_setRow B7.out (by omega) _⟩
    rw [HN.out]
    exact (Own.setRow o_s7.out _ (by omega)).mono (by omega) (by rw [size_setRow]; omega)
end Go.Proofs.YtfpaichdkddglabGreatDoor.Lg
