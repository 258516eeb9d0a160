/- Chapter 10, the specification's side: the first two that fork. -/
import Derived.Test.YtanidhhcedinoaaHe3
namespace Go.Proofs.Ytanidhhcedinoaa.He
open Go.RowKit Go.Proofs.Ytanidhhcedinoaa.Mem Go.Proofs.Ytanidhhcedinoaa.Laws Go.Proofs.Ytanidhhcedinoaa.Bytes Go.Proofs.Ytanidhhcedinoaa.Sha Go.Proofs.Ytanidhhcedinoaa.Tr
set_option linter.unusedVariables false
set_option linter.unusedSimpArgs false

theorem res_rows2 {P : Program} {fn : Func} {p q u : Tmp} {ty : TypeId} (h : fn.results = #[.cell p ty, .cell q ty, .tmp u]) (tmps : Array Value) (w : World) (g1 g2 : Nat) (t : TypeId) (c1 c2 : Array Value) (fr : Nat × Nat) (d : TypeDesc)
    (hp : tmps.getD p undef = .pointer (some ⟨g1, 0, none⟩)) (hq : tmps.getD q undef = .pointer (some ⟨g2, 0, none⟩)) (hg1 : w.heap[g1]? = some (.cells c1 t fr)) (hg2 : w.heap[g2]? = some (.cells c2 t fr))
    (hu : P.underlying ty = some d) (hd : (match d with | .struct _ | .array _ _ => true | _ => false) = true) (hi1 : (P.info? ty).map (·.size) = some c1.size) (hi2 : (P.info? ty).map (·.size) = some c2.size) :
    (results fn tmps).run P w = .ok (.tuple #[.agg c1, .agg c2, tmps.getD u undef]) w := by
  have hp' : tmps[p]?.getD undef = .pointer (some ⟨g1, 0, none⟩) := by simpa using hp
  have hq' : tmps[q]?.getD undef = .pointer (some ⟨g2, 0, none⟩) := by simpa using hq
  simp [results, h, hp', hq', asAddr, run_loadVar_row w g1 t ty c1 fr d hg1 hu hd hi1, run_loadVar_row w g2 t ty c2 fr d hg2 hu hd hi2]

theorem fork_step {t : List Hd} {i : Nat} {x : Hd} (hx : t[i]? = some x) : forkF (t.take i) (t.drop i) = match (t.take i).find? (apart x) with
    | some y => (y, x, true)
    | none => forkF (t.take (i + 1)) (t.drop (i + 1)) := by
  obtain ⟨hi, rfl⟩ := List.getElem?_eq_some_iff.1 hx
  rw [List.drop_eq_getElem_cons hi, forkF, List.take_add_one, List.getElem?_eq_getElem hi]
  rfl
theorem find_snoc {t : List Hd} {k : Nat} {y : Hd} (hy : t[k]? = some y) (x : Hd) (hn : (t.take k).find? (apart x) = none) : (t.take (k + 1)).find? (apart x) = if apart x y = true then some y else none := by
  rw [List.take_add_one, hy, List.find?_append, hn]
  simp [List.find?]
theorem find_more {t : List Hd} {k i : Nat} {x y : Hd} (hk : k ≤ i) (hf : (t.take k).find? (apart x) = some y) : (t.take i).find? (apart x) = some y := by
  have e : t.take k = (t.take i).take k := by rw [List.take_take]; congr 1; omega
  have h2 : (t.take i) = (t.take i).take k ++ (t.take i).drop k := (List.take_append_drop k (t.take i)).symm
  rw [h2, List.find?_append, ← e, hf]
  rfl

set_option maxRecDepth 1000000 in
set_option maxHeartbeats 8000000 in
theorem fork_spec (w : World) (v : Value) (t : List Hd) (hs : Sh w v t) (hx : t.length ≤ 1000000000000) :
    Calls Try.prog 15 #[v] w fun e w' => e = .returned (.tuple #[.agg #[.int .i64 (fork t).1.n, .string (fork t).1.r], .agg #[.int .i64 (fork t).2.1.n, .string (fork t).2.1.r], .bool (fork t).2.2]) ∧ Below w.heap.size w w' := by
  obtain ⟨W, hW, R0, R1, bW⟩ : ∃ W, Hid ((w.alloc (.cells #[.int .i64 0, .string ⟨#[]⟩] 27)).alloc (.cells #[.int .i64 0, .string ⟨#[]⟩] 27) = W) ∧ Hid (W.heap[w.heap.size]? = some (.cells (hc hd0) 27 (0, 0))) ∧ Hid (W.heap[w.heap.size + 1]? = some (.cells (hc hd0) 27 (0, 0))) ∧ Below w.heap.size w W := ⟨_, rfl, heap_alloc2_old w _ _, heap_alloc2_new w _ _, ((Below.refl _ _).alloc (Nat.le_refl _) _).alloc (by simp) _⟩
  have HS : Hid (Sh W v t) := hs.later bW
  have hbw : ∀ {b off : Nat} {cap : Nat}, v = .slice (some ⟨b, off, none⟩) t.length cap → 0 < t.length → b < w.heap.size := by
    intro b off cap hv hp
    obtain ⟨b', off', cap', hv', _, c0, _⟩ := Sh.at hs (k := 0) (q := t[0]) (by simp)
    rw [hv] at hv'
    simp only [Value.slice.injEq, Option.some.injEq, Addr.mk.injEq, and_true] at hv'
    obtain ⟨⟨rfl, rfl⟩, _⟩ := hv'
    exact World.block_lt_of_cell? w _ c0
  obtain ⟨ao, cap, rfl, hcap⟩ := Sh.form hs
  obtain ⟨F, hF⟩ : ∃ F, fork t = F := ⟨_, rfl⟩
  rw [hF]
  have HFF : Hid (forkF (t.take 0) (t.drop 0) = F) := hF
  have HBW : Hid _ := @hbw
  clear hs hF hbw
  go_enter Try.func15, Try.ntmps15
  go_wp2
  rw [hW.out]
  go_loopw [5] (fun iv wr => ∃ i n : Nat, i ≤ t.length ∧ iv = .int .i64 (i : Int) ∧ Hid (forkF (t.take i) (t.drop i) = F) ∧ wr = W.drewN n) (fun iv _ => t.length - (intOf iv).toNat)
  case atStart => exact ⟨0, 0, Nat.zero_le _, rfl, HFF, rfl⟩
  case round =>
    obtain ⟨i, n, hi, rfl, HI, rfl⟩ := hrel
    clear HFF
    by_cases hlt : i < t.length
    · obtain ⟨x, hx0⟩ : ∃ x, t[i]? = some x := ⟨t[i], by simp [hlt]⟩
      obtain ⟨b, off, cap', he, _, e0, e1⟩ := Sh.at HS.out hx0
      simp only [Value.slice.injEq] at he
      obtain ⟨rfl, -, rfl⟩ := he
      have hb1 := HBW.out rfl (by omega)
      have HST := fork_step hx0
      rw [HI.out] at HST
      have HST : Hid _ := HST
      clear hx0 HI HBW
      go_wp2
      go_loopw [6] (fun kv wr => ∃ k n : Nat, k ≤ i ∧ kv = .int .i64 (k : Int) ∧ Hid ((t.take k).find? (apart x) = none) ∧ wr = W.drewN n) (fun kv _ => i - (intOf kv).toNat)
      case atStart => exact ⟨0, n, Nat.zero_le _, rfl, rfl, rfl⟩
      case round =>
        obtain ⟨k, n, hk, rfl, HK, rfl⟩ := hrel
        by_cases hkl : k < i
        · obtain ⟨y, hy0⟩ : ∃ x, t[k]? = some x := ⟨t[k]'(by omega), by simp [show k < t.length by omega]⟩
          obtain ⟨b', off', cap', he, _, c0, c1⟩ := Sh.at HS.out hy0
          simp only [Value.slice.injEq, Option.some.injEq, Addr.mk.injEq, and_true] at he
          obtain ⟨⟨rfl, rfl⟩, -, rfl⟩ := he
          have hkt : (k : Int) < (t.length : Int) := by omega
          have hit : (i : Int) < (t.length : Int) := by omega
          have HFS := find_snoc hy0 x HK.out
          clear hy0 HK
          by_cases hn : y.n = x.n
          · have dn : (y.n == x.n) = true := by rw [beq_iff_eq]; exact hn
            by_cases hr : y.r = x.r
            · have dr : (y.r.toList == x.r.toList) = true := by rw [hr]; simp
              have dr2 : (y.r.toList != x.r.toList) = false := by rw [bne, dr]; rfl
              have HN : Hid ((t.take (k + 1)).find? (apart x) = none) := by
                show _ = _
                rw [HFS, if_neg]
                unfold apart eq6
                rw [dr]
                simp
              clear HFS hn hr
              go_wp2
              go_quiet (fail)
              go_wp2
              go_roundw
              case rel => exact ⟨k + 1, n + nq, by omega, by go_num, HN, rfl⟩
              case measure => simp [intOf]; omega
            · have dr : (y.r.toList == x.r.toList) = false := by
                rw [beq_eq_false_iff_ne, ByteArray.toList_eq, ByteArray.toList_eq]
                exact fun e => hr (by apply ByteArray.ext; apply Array.ext'; exact e)
              have dr2 : (y.r.toList != x.r.toList) = true := by rw [bne, dr]; rfl
              have HN : Hid (F = (y, x, true)) := by
                show _ = _
                rw [if_pos (by unfold apart eq6; rw [dr, hn]; simp)] at HFS
                have h := HST.out
                rw [find_more (show k + 1 ≤ i by omega) HFS] at h
                exact h
              clear HFS hn hr HST
              go_wp2
              go_quiet (fail)
              generalize nq = n1
              go_wp2_with fail
              refine wp_region_held_drew (S := fun w' => w'.cell? ⟨b, off + k * 2, none⟩ = some (.int .i64 y.n) ∧ w'.cell? ⟨b, off + k * 2 + 1, none⟩ = some (.string y.r) ∧ w'.cell? ⟨b, off + i * 2, none⟩ = some (.int .i64 x.n) ∧ w'.cell? ⟨b, off + i * 2 + 1, none⟩ = some (.string x.r)) (by kernel_rfl) ⟨c0, c1, e0, e1⟩ (fun hHeld => ?_)
              (refine wpAnyH_take (i := 0) (v := ?v0x1) rfl (by kernel_rfl) (by kernel_rfl) (by kernel_rfl) (fun _ _ _ h => h) (Or.inl ⟨by rfl, ?hy0x1⟩) (by assumption) ?rest0x1; case hy0x1 => (intro w hSw; (try dsimp only at hSw); go_split_ands; go_simp; (try with_reducible rfl)))
              try simp only [Act.put, List.setIfInBounds_toArray, List.set_cons_zero, List.set_cons_succ, List.getElem_toArray, List.getElem_cons_zero, List.getElem_cons_succ]
              (refine wpAnyH_take (i := 1) (v := ?v1x2) rfl (by kernel_rfl) (by kernel_rfl) (by kernel_rfl) (fun _ _ _ h => h) (Or.inl ⟨by rfl, ?hy1x2⟩) (by assumption) ?rest1x2; case hy1x2 => (intro w hSw; (try dsimp only at hSw); go_split_ands; go_simp; (try with_reducible rfl)))
              try simp only [Act.put, List.setIfInBounds_toArray, List.set_cons_zero, List.set_cons_succ, List.getElem_toArray, List.getElem_cons_zero, List.getElem_cons_succ]
              (refine wpAnyH_take (i := 2) (v := ?v2x3) rfl (by kernel_rfl) (by kernel_rfl) (by kernel_rfl) (fun _ _ _ h => h) (Or.inl ⟨by rfl, ?hy2x3⟩) (by assumption) ?rest2x3; case hy2x3 => (intro w hSw; (try dsimp only at hSw); go_split_ands; go_simp; (try with_reducible rfl)))
              try simp only [Act.put, List.setIfInBounds_toArray, List.set_cons_zero, List.set_cons_succ, List.getElem_toArray, List.getElem_cons_zero, List.getElem_cons_succ]
              (refine wpAnyH_take (i := 3) (v := ?v3x4) rfl (by kernel_rfl) (by kernel_rfl) (by kernel_rfl) (fun _ _ _ h => h) (Or.inl ⟨by rfl, ?hy3x4⟩) (by assumption) ?rest3x4; case hy3x4 => (intro w hSw; (try dsimp only at hSw); go_split_ands; go_simp; (try with_reducible rfl)))
              try simp only [Act.put, List.setIfInBounds_toArray, List.set_cons_zero, List.set_cons_succ, List.getElem_toArray, List.getElem_cons_zero, List.getElem_cons_succ]
              (refine wpAnyH_take (i := 4) (v := ?v4x5) rfl (by kernel_rfl) (by kernel_rfl) (by kernel_rfl) (fun _ _ _ h => h) (Or.inl ⟨by rfl, ?hy4x5⟩) (by assumption) ?rest4x5; case hy4x5 => (intro w hSw; (try dsimp only at hSw); go_split_ands; go_simp; (try with_reducible rfl)))
              try simp only [Act.put, List.setIfInBounds_toArray, List.set_cons_zero, List.set_cons_succ, List.getElem_toArray, List.getElem_cons_zero, List.getElem_cons_succ]
              (refine wpAnyH_take (i := 5) (v := ?v5x6) rfl (by kernel_rfl) (by kernel_rfl) (by kernel_rfl) (fun _ _ _ h => h) (Or.inl ⟨by rfl, ?hy5x6⟩) (by assumption) ?rest5x6; case hy5x6 => (intro w hSw; (try dsimp only at hSw); go_split_ands; go_simp; (try with_reducible rfl)))
              try simp only [Act.put, List.setIfInBounds_toArray, List.set_cons_zero, List.set_cons_succ, List.getElem_toArray, List.getElem_cons_zero, List.getElem_cons_succ]
              (refine wpAnyH_take (i := 6) (v := ?v6x7) rfl (by kernel_rfl) (by kernel_rfl) (by kernel_rfl) (fun _ _ _ h => h) (Or.inl ⟨by rfl, ?hy6x7⟩) (by assumption) ?rest6x7; case hy6x7 => (intro w hSw; (try dsimp only at hSw); go_split_ands; go_simp; (try with_reducible rfl)))
              try simp only [Act.put, List.setIfInBounds_toArray, List.set_cons_zero, List.set_cons_succ, List.getElem_toArray, List.getElem_cons_zero, List.getElem_cons_succ]
              (refine wpAnyH_take (i := 7) (v := ?v7x8) rfl (by kernel_rfl) (by kernel_rfl) (by kernel_rfl) (fun _ _ _ h => h) (Or.inl ⟨by rfl, ?hy7x8⟩) (by assumption) ?rest7x8; case hy7x8 => (intro w hSw; (try dsimp only at hSw); go_split_ands; go_simp; (try with_reducible rfl)))
              try simp only [Act.put, List.setIfInBounds_toArray, List.set_cons_zero, List.set_cons_succ, List.getElem_toArray, List.getElem_cons_zero, List.getElem_cons_succ]
              refine wpAnyH_ready (rs := [8]) (by kernel_rfl) (by simp) ?_
              refine AllReadyH.cons rfl (fun K hK => ?_) AllReadyH.nil
              rw [if_pos (by rfl)]
              refine wp_store_row 27 _ _ rfl w.heap.size (hc y) rfl rfl 27 _ R0.out (sizeH y) rfl (oneH y) ?_
              refine hK.out _ _ ⟨cell_row (by show b ≠ _; omega) hHeld.1, cell_row (by show b ≠ _; omega) hHeld.2.1, cell_row (by show b ≠ _; omega) hHeld.2.2.1, cell_row (by show b ≠ _; omega) hHeld.2.2.2⟩ (fun hHeld => ?_)
              clear hK K
              try simp only [Act.put, List.setIfInBounds_toArray, List.set_cons_zero, List.set_cons_succ, List.getElem_toArray, List.getElem_cons_zero, List.getElem_cons_succ]
              refine wpAnyH_ready (rs := [9]) (by kernel_rfl) (by simp) ?_
              refine AllReadyH.cons rfl (fun K hK => ?_) AllReadyH.nil
              rw [if_pos (by rfl)]
              refine wp_store_row 27 _ _ rfl (w.heap.size + 1) (hc x) rfl rfl 27 _ ((setRow_other _ _ _ _ (by omega)).trans R1.out) (sizeH x) rfl (oneH x) ?_
              refine hK.out _ _ ⟨cell_row (by show b ≠ _; omega) hHeld.1, cell_row (by show b ≠ _; omega) hHeld.2.1, cell_row (by show b ≠ _; omega) hHeld.2.2.1, cell_row (by show b ≠ _; omega) hHeld.2.2.2⟩ (fun hHeld => ?_)
              clear hK K
              try simp only [Act.put, List.setIfInBounds_toArray, List.set_cons_zero, List.set_cons_succ, List.getElem_toArray, List.getElem_cons_zero, List.getElem_cons_succ]
              (refine wpAnyH_take (i := 10) (v := ?v10x9) rfl (by kernel_rfl) (by kernel_rfl) (by kernel_rfl) (fun _ _ _ h => h) (Or.inl ⟨by rfl, ?hy10x9⟩) (by assumption) ?rest10x9; case hy10x9 => (intro w hSw; (try dsimp only at hSw); go_split_ands; go_simp; (try with_reducible rfl)))
              try simp only [Act.put, List.setIfInBounds_toArray, List.set_cons_zero, List.set_cons_succ, List.getElem_toArray, List.getElem_cons_zero, List.getElem_cons_succ]
              refine wpAnyH_done (by kernel_rfl) ?_ _
              clear hHeld
              go_wp2
              exact bodyPost_ret (res_rows2 rfl _ _ w.heap.size (w.heap.size + 1) 27 (hc y) (hc x) (0, 0) _ rfl rfl ((setRow_other _ _ _ _ (by omega)).trans (setRow_heap _ _ _ _ _ (0, 0) R0.out)) (setRow_heap _ _ _ _ _ (0, 0) ((setRow_other _ _ _ _ (by omega)).trans R1.out)) Try.underlying27 rfl (sizeH y) (sizeH x)) rfl ⟨by rw [HN.out]; rfl, below_setRow (below_setRow (Below.drew (below_drewN (below_drewN bW _) _)) (by omega) _) (by omega) _⟩
          · have dn : (y.n == x.n) = false := by rw [beq_eq_false_iff_ne]; exact hn
            have HN : Hid ((t.take (k + 1)).find? (apart x) = none) := by
              show _ = _
              rw [HFS, if_neg]
              unfold apart
              rw [decide_eq_false hn]
              simp
            clear HFS hn
            go_wp2
            go_quiet (fail)
            go_wp2
            go_roundw
            case rel => exact ⟨k + 1, n + nq, by omega, by go_num, HN, rfl⟩
            case measure => simp [intOf]; omega
        · have HN : Hid (forkF (t.take (i + 1)) (t.drop (i + 1)) = F) := by
            show _ = _
            have h := HST.out
            have hk2 : k = i := by omega
            subst hk2
            rw [HK.out] at h
            exact h.symm
          clear HK HST
          go_wp2
          go_roundw
          case rel => exact ⟨i + 1, n, by omega, by go_num, HN, rfl⟩
          case measure => simp [intOf]; omega
    · have HN : Hid (F = (hd0, hd0, false)) := by
        show _ = _
        rw [← HI.out, List.drop_eq_nil_of_le (by omega)]
        rfl
      clear HI HBW
      go_wp2_with (first | (refine wpList_store_row rfl 27 _ _ rfl w.heap.size (hc hd0) rfl rfl 27 _ R0.out (sizeH hd0) rfl (oneH hd0) ?_) | (refine wpList_store_row rfl 27 _ _ rfl (w.heap.size + 1) (hc hd0) rfl rfl 27 _ ((setRow_other _ _ _ _ (by omega)).trans R1.out) (sizeH hd0) rfl (oneH hd0) ?_))
      exact bodyPost_ret (res_rows2 rfl _ _ w.heap.size (w.heap.size + 1) 27 (hc hd0) (hc hd0) (0, 0) _ rfl rfl ((setRow_other _ _ _ _ (by omega)).trans (setRow_heap _ _ _ _ _ (0, 0) R0.out)) (setRow_heap _ _ _ _ _ (0, 0) ((setRow_other _ _ _ _ (by omega)).trans R1.out)) Try.underlying27 rfl (sizeH hd0) (sizeH hd0)) rfl ⟨by rw [HN.out]; rfl, below_setRow (below_setRow (below_drewN bW _) (by omega) _) (by omega) _⟩

end Go.Proofs.Ytanidhhcedinoaa.He
