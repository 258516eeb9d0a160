/- Chapter 10, the specification's side: heads that are right, signed, the best. -/
import Derived.Test.YtccnhhdcdamgmaaDoorHeE
import Derived.Test.YtccnhhdcdamgmaaDoorHe2
import Derived.BigQuiet
import Derived.Deep.RegionHeld3
namespace Go.Proofs.YtccnhhdcdamgmaaDoor.He
open Go.RowKit Go.Proofs.YtccnhhdcdamgmaaDoor.Mem Go.Proofs.YtccnhhdcdamgmaaDoor.Laws Go.Proofs.YtccnhhdcdamgmaaDoor.Bytes Go.Proofs.YtccnhhdcdamgmaaDoor.Sha Go.Proofs.YtccnhhdcdamgmaaDoor.Tr
set_option linter.unusedVariables false
set_option linter.unusedSimpArgs false

set_option maxRecDepth 1000000 in
set_option maxHeartbeats 1000000 in
theorem ok_spec (w : World) (h : Hd) : Calls Tryd.prog 58 #[.agg #[.int .i64 h.n, .string h.r]] w fun e w' => e = .returned (.bool (okH h)) ∧ Below w.heap.size w w' := by
  have HB : Hid (Below w.heap.size w (w.alloc (.cells #[.int .i64 h.n, .string h.r] 26))) := (Below.refl _ _).alloc (Nat.le_refl _) _
  by_cases hn : 0 ≤ h.n ∧ h.n ≤ 200
  · have q := in6t (w.alloc (.cells #[.int .i64 h.n, .string h.r] 26)) hn
    obtain ⟨t, ht⟩ : ∃ t, ((h.r.size : Int) == 32) = t := ⟨_, rfl⟩
    have HN : Hid (okH h = t) := by
      show _ = _
      rw [← ht]
      unfold okH
      by_cases h32 : h.r.size = 32
      · rw [decide_eq_true ⟨hn, h32⟩, h32]; rfl
      · rw [decide_eq_false (fun c => h32 c.2)]
        exact (beq_eq_false_iff_ne.2 (by omega)).symm
    clear hn
    go_enter Tryd.func58, Tryd.ntmps58
    go_wp2_with fail
    refine q.mono ?_
    rintro e w1 ⟨rfl, rfl⟩
    go_wp2
    go_ret
    exact ⟨by rw [HN.out]; rfl, HB.out⟩
  · have q := in6f (w.alloc (.cells #[.int .i64 h.n, .string h.r] 26)) hn
    have HN : Hid (okH h = false) := by show _ = _; unfold okH; rw [decide_eq_false (fun c => hn c.1)]
    clear hn
    go_enter Tryd.func58, Tryd.ntmps58
    go_wp2_with fail
    refine q.mono ?_
    rintro e w1 ⟨rfl, rfl⟩
    go_wp2
    go_ret
    exact ⟨by rw [HN.out]; rfl, HB.out⟩

theorem signed_snoc {t : List Hd} {k : Nat} {x : Hd} (hx : t[k]? = some x) (h : Hd) : signed (t.take (k + 1)) h = (signed (t.take k) h || eqH x h) := by
  unfold signed
  rw [List.take_add_one, hx]
  simp
theorem signed_yes {t : List Hd} {k : Nat} {x h : Hd} (hx : t[k]? = some x) (he : eqH x h = true) : signed t h = true := by
  unfold signed
  rw [List.any_eq_true]
  exact ⟨x, List.mem_of_getElem? hx, he⟩

set_option maxRecDepth 1000000 in
set_option maxHeartbeats 1000000 in
theorem signed_spec (w : World) (v : Value) (t : List Hd) (h : Hd) (hs : Sh w v t) (hx : t.length ≤ 1000000000000) :
    Calls Tryd.prog 59 #[v, .agg #[.int .i64 h.n, .string h.r]] w fun e w' => e = .returned (.bool (signed t h)) ∧ Below w.heap.size w w' := by
  obtain ⟨W, hW, r0, bW⟩ : ∃ W, Hid (w.alloc (.cells #[.int .i64 h.n, .string h.r] 26) = W) ∧ W.heap[w.heap.size]? = some (.cells (hc h) 26 (0, 0)) ∧ Below w.heap.size w W := ⟨_, rfl, heap_alloc_new w _, (Below.refl _ _).alloc (Nat.le_refl _) _⟩
  have HS : Hid (Sh W v t) := hs.later bW
  obtain ⟨ao, cap, rfl, hcap⟩ := Sh.form hs
  have p0 : W.cell? ⟨w.heap.size, 0, none⟩ = some (.int .i64 h.n) := row_at r0 0
  have p1 : W.cell? ⟨w.heap.size, 1, none⟩ = some (.string h.r) := row_at r0 1
  obtain ⟨S, hS⟩ : ∃ S, signed t h = S := ⟨_, rfl⟩
  rw [hS]
  have HSS : Hid (signed t h = S) := hS
  have eq1 : ∀ (W : World) (x : Hd), _ := fun W x => eqlH W x h
  have gr1 : ∀ (W : World) (x y : Operand) (xs ys : Array Value), _ := fun W x y xs ys => grdH W .eql x y xs ys
  clear hs hS r0
  go_enter Tryd.func59, Tryd.ntmps59
  go_wp2
  rw [hW.out]
  go_loopw [5] (fun i wr => ∃ k n : Nat, k ≤ t.length ∧ i = .int .i64 (k : Int) ∧ Hid (signed (t.take k) h = false) ∧ wr = W.drewN n) (fun i _ => t.length - (intOf i).toNat)
  case atStart => exact ⟨0, 0, Nat.zero_le _, rfl, rfl, rfl⟩
  case round =>
    obtain ⟨k, n, hk, rfl, HK, rfl⟩ := hrel
    by_cases hlt : k < t.length
    · obtain ⟨x, hx0⟩ : ∃ x, t[k]? = some x := ⟨t[k], by simp [hlt]⟩
      obtain ⟨b, off, cap', he, _, c0, c1⟩ := Sh.at HS.out hx0
      simp only [Value.slice.injEq] at he
      obtain ⟨rfl, _, rfl⟩ := he
      have eq2 := fun W => eq1 W x
      by_cases hxh : eqH x h = true
      · have HF : Hid (S = true) := by show _ = _; rw [← HSS.out]; exact signed_yes hx0 hxh
        simp only [hxh] at eq2
        clear hx0 HK eq1 hxh
        go_wp2
        go_quiet (fail)
        go_wp2
        go_ret
        exact ⟨by rw [HF.out]; rfl, below_drewN (below_drewN bW _) _⟩
      · have hxf : eqH x h = false := by simpa using hxh
        have HN : Hid (signed (t.take (k + 1)) h = false) := by show _ = _; rw [signed_snoc hx0, HK.out, hxf]; rfl
        simp only [hxf] at eq2
        clear hx0 HK eq1 hxh hxf
        go_wp2
        go_quiet (fail)
        go_wp2
        go_roundw
        case rel => exact ⟨k + 1, n + nq, by omega, by go_num, HN, rfl⟩
        case measure => simp [intOf]; omega
    · have HF : Hid (S = false) := by
        show _ = _
        have h1 := HK.out
        rw [List.take_of_length_le (by omega)] at h1
        rw [← HSS.out, h1]
      clear HK
      go_wp2
      go_ret
      exact ⟨by rw [HF.out]; rfl, below_drewN bW n⟩

set_option maxRecDepth 1000000 in
set_option maxHeartbeats 1000000 in
theorem eq_heads (w : World) (v1 v2 : Value) (l : List Hd) (h1 : Sh w v1 l) (h2 : Sh w v2 l) (hx : l.length ≤ 1000000000000) :
    Calls Tryd.prog 40 #[v1, v2] w fun e w' => e = .returned (.bool true) ∧ Below w.heap.size w w' := by
  have HS1 : Hid (Sh w v1 l) := h1
  have HS2 : Hid (Sh w v2 l) := h2
  obtain ⟨ao, cap, rfl, hcap⟩ := Sh.form h1
  obtain ⟨ao2, cap2, rfl, hcap2⟩ := Sh.form h2
  have n1 : ((l.length : Int) != (l.length : Int)) = false := by simp
  go_enter Tryd.func40, Tryd.ntmps40
  go_wp2
  go_loopw [5] (fun i wr => ∃ k : Nat, k ≤ l.length ∧ i = .int .i64 (k : Int) ∧ Below w.heap.size w wr) (fun i _ => l.length - (intOf i).toNat)
  case atStart => exact ⟨0, Nat.zero_le _, rfl, Below.refl _ _⟩
  case round =>
    obtain ⟨k, hk, rfl, hB⟩ := hrel
    by_cases hlt : k < l.length
    · obtain ⟨x, hn⟩ : ∃ n, l[k]? = some n := ⟨l[k], by simp [hlt]⟩
      obtain ⟨b, off, cap', he, _, c0, c1⟩ := Sh.at (HS1.out.later hB) hn
      simp only [Value.slice.injEq] at he
      obtain ⟨rfl, _, rfl⟩ := he
      obtain ⟨b2, off2, cap2', he2, _, e0, e1⟩ := Sh.at (HS2.out.later hB) hn
      simp only [Value.slice.injEq] at he2
      obtain ⟨rfl, _, rfl⟩ := he2
      have q : ∀ W, _ := fun W => eq_head W x
      clear hn n1
      go_wp2_with fail
      refine wp_region_held_drew (S := fun w' => w'.cell? ⟨b, off + k * 2, none⟩ = some (.int .i64 x.n) ∧ w'.cell? ⟨b, off + k * 2 + 1, none⟩ = some (.string x.r) ∧ w'.cell? ⟨b2, off2 + k * 2, none⟩ = some (.int .i64 x.n) ∧ w'.cell? ⟨b2, off2 + k * 2 + 1, none⟩ = some (.string x.r)) (by kernel_rfl) ⟨c0, c1, e0, e1⟩ (fun hHeld => ?_)
      (refine wpAnyH_take (i := 0) (v := ?v0x1) rfl (by kernel_rfl) (by kernel_rfl) (by kernel_rfl) (fun _ _ _ h => h) (Or.inl ⟨by rfl, ?hy0x1⟩) (by assumption) ?rest0x1; case hy0x1 => (intro w hSw; (try dsimp only at hSw); go_split_ands; go_simp; (try with_reducible rfl)))
      try simp only [Act.put, List.setIfInBounds_toArray, List.set_cons_zero, List.set_cons_succ, List.getElem_toArray, List.getElem_cons_zero, List.getElem_cons_succ]
      (refine wpAnyH_take (i := 1) (v := ?v1x2) rfl (by kernel_rfl) (by kernel_rfl) (by kernel_rfl) (fun _ _ _ h => h) (Or.inl ⟨by rfl, ?hy1x2⟩) (by assumption) ?rest1x2; case hy1x2 => (intro w hSw; (try dsimp only at hSw); go_split_ands; go_simp; (try with_reducible rfl)))
      try simp only [Act.put, List.setIfInBounds_toArray, List.set_cons_zero, List.set_cons_succ, List.getElem_toArray, List.getElem_cons_zero, List.getElem_cons_succ]
      (refine wpAnyH_take (i := 2) (v := ?v2x3) rfl (by kernel_rfl) (by kernel_rfl) (by kernel_rfl) (fun _ _ _ h => h) (Or.inl ⟨by rfl, ?hy2x3⟩) (by assumption) ?rest2x3; case hy2x3 => (intro w hSw; (try dsimp only at hSw); go_split_ands; go_simp; (try with_reducible rfl)))
      try simp only [Act.put, List.setIfInBounds_toArray, List.set_cons_zero, List.set_cons_succ, List.getElem_toArray, List.getElem_cons_zero, List.getElem_cons_succ]
      (refine wpAnyH_take (i := 3) (v := ?v3x4) rfl (by kernel_rfl) (by kernel_rfl) (by kernel_rfl) (fun _ _ _ h => h) (Or.inl ⟨by rfl, ?hy3x4⟩) (by assumption) ?rest3x4; case hy3x4 => (intro w hSw; (try dsimp only at hSw); go_split_ands; go_simp; (try with_reducible rfl)))
      try simp only [Act.put, List.setIfInBounds_toArray, List.set_cons_zero, List.set_cons_succ, List.getElem_toArray, List.getElem_cons_zero, List.getElem_cons_succ]
      (refine wpAnyH_take (i := 4) (v := ?v4x5) rfl (by kernel_rfl) (by kernel_rfl) (by kernel_rfl) (fun _ _ _ h => h) (Or.inl ⟨by rfl, ?hy4x5⟩) (by assumption) ?rest4x5; case hy4x5 => (intro w hSw; (try dsimp only at hSw); go_split_ands; go_simp; (try with_reducible rfl)))
      try simp only [Act.put, List.setIfInBounds_toArray, List.set_cons_zero, List.set_cons_succ, List.getElem_toArray, List.getElem_cons_zero, List.getElem_cons_succ]
      (refine wpAnyH_take (i := 5) (v := ?v5x6) rfl (by kernel_rfl) (by kernel_rfl) (by kernel_rfl) (fun _ _ _ h => h) (Or.inl ⟨by rfl, ?hy5x6⟩) (by assumption) ?rest5x6; case hy5x6 => (intro w hSw; (try dsimp only at hSw); go_split_ands; go_simp; (try with_reducible rfl)))
      try simp only [Act.put, List.setIfInBounds_toArray, List.set_cons_zero, List.set_cons_succ, List.getElem_toArray, List.getElem_cons_zero, List.getElem_cons_succ]
      (refine wpAnyH_take (i := 6) (v := ?v6x7) rfl (by kernel_rfl) (by kernel_rfl) (by kernel_rfl) (fun _ _ _ h => h) (Or.inl ⟨by rfl, ?hy6x7⟩) (by assumption) ?rest6x7; case hy6x7 => (intro w hSw; (try dsimp only at hSw); go_split_ands; go_simp; (try with_reducible rfl)))
      try simp only [Act.put, List.setIfInBounds_toArray, List.set_cons_zero, List.set_cons_succ, List.getElem_toArray, List.getElem_cons_zero, List.getElem_cons_succ]
      (refine wpAnyH_take (i := 7) (v := ?v7x8) rfl (by kernel_rfl) (by kernel_rfl) (by kernel_rfl) (fun _ _ _ h => h) (Or.inl ⟨by rfl, ?hy7x8⟩) (by assumption) ?rest7x8; case hy7x8 => (intro w hSw; (try dsimp only at hSw); go_split_ands; go_simp; (try with_reducible rfl)))
      try simp only [Act.put, List.setIfInBounds_toArray, List.set_cons_zero, List.set_cons_succ, List.getElem_toArray, List.getElem_cons_zero, List.getElem_cons_succ]
      refine wpAnyH_ready (rs := [8]) (by kernel_rfl) (by simp) ?_
      refine AllReadyH.cons rfl (fun K hK => ?_) AllReadyH.nil
      go_simp
      refine (q _).mono ?_
      rintro e w4 ⟨rfl, b4⟩
      refine hK.out _ _ ⟨keepH hHeld.1 b4, keepH hHeld.2.1 b4, keepH hHeld.2.2.1 b4, keepH hHeld.2.2.2 b4⟩ (fun hHeld => ?_)
      clear hK K
      try simp only [Act.put, List.setIfInBounds_toArray, List.set_cons_zero, List.set_cons_succ, List.getElem_toArray, List.getElem_cons_zero, List.getElem_cons_succ]
      (refine wpAnyH_take (i := 9) (v := ?v9x9) rfl (by kernel_rfl) (by kernel_rfl) (by kernel_rfl) (fun _ _ _ h => h) (Or.inl ⟨by rfl, ?hy9x9⟩) (by assumption) ?rest9x9; case hy9x9 => (intro w hSw; (try dsimp only at hSw); go_split_ands; go_simp; (try with_reducible rfl)))
      try simp only [Act.put, List.setIfInBounds_toArray, List.set_cons_zero, List.set_cons_succ, List.getElem_toArray, List.getElem_cons_zero, List.getElem_cons_succ]
      refine wpAnyH_done (by kernel_rfl) ?_ _
      clear hHeld
      have B4 : Below w.heap.size w w4 := (Below.drew hB).trans (b4.mono hB.size)
      clear c0 c1 e0 e1 q b4
      go_wp2
      go_roundw
      case rel => exact ⟨k + 1, by omega, by go_num, B4⟩
      case measure => simp [intOf]; omega
    · go_wp2
      go_ret
      exact ⟨rfl, hB⟩

theorem bestF_snoc (b : Hd) (r : List Hd) (x : Hd) : bestF b (r ++ [x]) = if (bestF b r).n < x.n then x else bestF b r := by
  induction r generalizing b with
  | nil => rfl
  | cons y r ih =>
    simp only [List.cons_append, bestF]
    split
    · exact ih y
    · exact ih b

end Go.Proofs.YtccnhhdcdamgmaaDoor.He
