/- Texts in one: EntE. -/
import Derived.Test.YtbopliahafkecaaGreatDoorPk22
import Derived.Test.YtbopliahafkecaaGreatDoorPk15
/- Chapter 5, draws: a need put in order. -/
namespace Go.Proofs.YtbopliahafkecaaGreatDoor.Ent
open Go.RowKit Go.Proofs.YtbopliahafkecaaGreatDoor.Mem Go.Proofs.YtbopliahafkecaaGreatDoor.Laws Go.Proofs.YtbopliahafkecaaGreatDoor.Bytes Go.Proofs.YtbopliahafkecaaGreatDoor.Sha Go.Proofs.YtbopliahafkecaaGreatDoor.Ver Go.Proofs.YtbopliahafkecaaGreatDoor.Mod Go.Proofs.YtbopliahafkecaaGreatDoor.Draw
set_option linter.unusedVariables false
set_option linter.unusedSimpArgs false

/-- what a round of l5Put holds: the call's own list, the need, what was there -/
structure Pt (w W : World) (n : Nd) (v : Value) (L : List Nd) : Prop where
  od : Od W (w.heap.size + 1) W.heap.size v L
  size : w.heap.size + 1 ≤ W.heap.size
  nr : Nr W w.heap.size n
  below : Below w.heap.size w W
theorem on_slice5 {n m : Nat} {w : World} {lo hi : Nat} {e : TypeId} {v : Value} {cs : List Value} (h : On n w lo hi e v m cs) : ∃ ao cap, v = .slice ao m cap := by
  obtain ⟨_, ao, cap, rfl, _⟩ := h.sn
  exact ⟨ao, cap, rfl⟩
theorem Pt.drew {w W : World} {n : Nd} {v : Value} {L : List Nd} (h : Pt w W n v L) : Pt w W.drew n v L := ⟨h.od, h.size, h.nr, Below.drew h.below⟩
theorem Pt.app {w W W' : World} {n x : Nd} {v v' : Value} {L : List Nd} {o : Obj} (h : Pt w W n v L) (ho : On 5 W' (w.heap.size + 1) W'.heap.size 47 v' (L.length + 1) (nds L ++ nds [x])) (hb : Below (w.heap.size + 1) (W.alloc o) W') : Pt w W' n v' (L ++ [x]) := by
  have h1 : Below (w.heap.size + 1) W W' := ((Below.refl _ _).alloc h.size o).trans hb
  refine ⟨?_, Nat.le_trans h.size h1.size, (h1.block _ (by omega)).trans h.nr, h.below.trans (h1.mono (by omega))⟩
  unfold Od
  rw [nds_app, List.length_append]
  exact ho

set_option maxRecDepth 1000000 in
set_option maxHeartbeats 4000000 in
theorem put_any (w : World) (v : Value) (l : List Nd) (n : Nd) (h : Sd w v l) (hl : l.length ≤ 1000) :
    Calls Tryz.prog 48 #[v, .agg #[.string n.path, .int .i64 n.a, .int .i64 n.b, .int .i64 n.c, .string n.pre]] w fun e w' => ∃ v', e = .returned v' ∧ Od w' w.heap.size w'.heap.size v' (insN l n) ∧ Below w.heap.size w w' := by
  obtain ⟨i0, hi, hz0, hz1, hz2⟩ := info_parts infoN5
  have HS : Hid (Sd w v l) := h
  obtain ⟨hcl, ao, cap, rfl, hcap, hnn, _⟩ := h
  obtain ⟨W0, HW0, HP0⟩ : ∃ W0, Hid ((w.alloc (.cells #[.string n.path, .int .i64 n.a, .int .i64 n.b, .int .i64 n.c, .string n.pre] 47)).alloc (.cells #[] 47) = W0) ∧ Hid (Pt w W0 n (.slice (some ⟨w.heap.size + 1, 0, none⟩) 0 0) []) := by
    refine ⟨_, rfl, ?_, ?_, ?_, ?_⟩
    · have := On.lit 5 (w.alloc (.cells #[.string n.path, .int .i64 n.a, .int .i64 n.b, .int .i64 n.c, .string n.pre] 47)) (w.heap.size + 1) 47 (by simp)
      unfold Od
      simpa [World.size_alloc, nds] using this
    · simp
    · exact heap_alloc2_old w _ _
    · exact ((Below.refl _ _).alloc (Nat.le_refl _) _).alloc (by simp) _
  go_enter Tryz.func48, Tryz.ntmps48
  go_wp2
  rw [HW0.out]
  go_loopw [5, 6, 7] (fun vo pt i wr => ∃ (k : Nat) (L : List Nd) (b : Bool), k ≤ l.length ∧ i = .int .i64 (k : Int) ∧ pt = .bool b ∧ Hid ((l.take k).foldl (stepN n) ([], false) = (L, b)) ∧ Pt w wr n vo L) (fun _ _ i _ => l.length - (intOf i).toNat)
  case atStart => exact ⟨0, [], false, Nat.zero_le _, rfl, rfl, rfl, HP0.out⟩
  case round =>
    obtain ⟨k, L, b, hk, rfl, rfl, HA, hP⟩ := hrel
    clear HP0 HW0
    have hL : L.length ≤ 2 * k := by
      have := fold_len n (l.take k) ([], false)
      rw [HA.out] at this
      simp at this
      omega
    obtain ⟨ao9, cap9, rfl⟩ := hP.od.slice
    have HP : Hid (Pt w wr n (.slice ao9 L.length cap9) L) := hP
    by_cases hlt : k < l.length
    · obtain ⟨x, hn⟩ : ∃ n, l[k]? = some n := ⟨l[k], by simp [hlt]⟩
      obtain ⟨bb, off, cap', he, _, c0, c1, c2, c3, c4⟩ := Sd.at (HS.out.later hP.below) hn
      have hbl : bb < w.heap.size := by
        obtain ⟨b', off', _, he', _, c0', _⟩ := Sd.at HS.out hn
        simp only [Value.slice.injEq] at he he'
        obtain ⟨rfl, _, rfl⟩ := he
        simp only [Option.some.injEq, Addr.mk.injEq] at he'
        obtain ⟨⟨rfl, rfl, _⟩, _⟩ := he'
        exact World.block_lt_of_cell? w _ c0'
      simp only [Value.slice.injEq] at he
      obtain ⟨rfl, _, rfl⟩ := he
      obtain ⟨n0, n1, n2, n3, n4⟩ := Nr.cells hP.nr
      have HT : Hid ((l.take (k + 1)).foldl (stepN n) ([], false) = stepB n (stepA n (L, b) x) x) := by
        show _ = _
        rw [List.take_add_one, hn, List.foldl_append, HA.out]
        rfl
      obtain ⟨lt, hltt⟩ : ∃ z, ltT x.path n.path = z := ⟨_, rfl⟩
      obtain ⟨eq, heqq⟩ : ∃ z, eqT x.path n.path = z := ⟨_, rfl⟩
      have hg := geq_str 9 x.path n.path
      rw [hltt] at hg
      have heq' : (x.path.toList == n.path.toList) = eq := heqq
      have HLT : Hid (ltT x.path n.path = lt) := hltt
      have HEQ : Hid (eqT x.path n.path = eq) := heqq
      clear hn hltt heqq HA hP
      have cc : wr.cell? ⟨bb, off + k * 5, none⟩ = some (.string x.path) ∧ wr.cell? ⟨bb, off + k * 5 + 1, none⟩ = some (.int .i64 x.a) ∧ wr.cell? ⟨bb, off + k * 5 + 2, none⟩ = some (.int .i64 x.b) ∧ wr.cell? ⟨bb, off + k * 5 + 3, none⟩ = some (.int .i64 x.c) ∧ wr.cell? ⟨bb, off + k * 5 + 4, none⟩ = some (.string x.pre) := ⟨c0, c1, c2, c3, c4⟩
      have HCC : Hid _ := cc
      clear cc
      cases b
      · cases lt
        · go_wp2_with fail
          refine wp_region_held_drew (S := fun w' => w'.cell? ⟨bb, off + k * 5, none⟩ = some (.string x.path) ∧ w'.cell? ⟨w.heap.size, 0, none⟩ = some (.string n.path)) (by kernel_rfl) ⟨c0, n0⟩ (fun hHeld => ?_)
          (refine wpAnyH_take (i := 0) (v := ?v0x1) rfl (by kernel_rfl) (by kernel_rfl) (by kernel_rfl) (fun _ _ _ h => h) (Or.inl ⟨by rfl, ?hy0x1⟩) (by assumption) ?rest0x1; case hy0x1 => (intro w hSw; (try dsimp only at hSw); go_split_ands; go_simp; (try with_reducible rfl)))
          try simp only [Act.put, List.setIfInBounds_toArray, List.set_cons_zero, List.set_cons_succ, List.getElem_toArray, List.getElem_cons_zero, List.getElem_cons_succ]
          (refine wpAnyH_take (i := 1) (v := ?v1x2) rfl (by kernel_rfl) (by kernel_rfl) (by kernel_rfl) (fun _ _ _ h => h) (Or.inl ⟨by rfl, ?hy1x2⟩) (by assumption) ?rest1x2; case hy1x2 => (intro w hSw; (try dsimp only at hSw); go_split_ands; go_simp; (try with_reducible rfl)))
          try simp only [Act.put, List.setIfInBounds_toArray, List.set_cons_zero, List.set_cons_succ, List.getElem_toArray, List.getElem_cons_zero, List.getElem_cons_succ]
          (refine wpAnyH_take (i := 2) (v := ?v2x3) rfl (by kernel_rfl) (by kernel_rfl) (by kernel_rfl) (fun _ _ _ h => h) (Or.inl ⟨by rfl, ?hy2x3⟩) (by assumption) ?rest2x3; case hy2x3 => (intro w hSw; (try dsimp only at hSw); go_split_ands; go_simp; (try with_reducible rfl)))
          try simp only [Act.put, List.setIfInBounds_toArray, List.set_cons_zero, List.set_cons_succ, List.getElem_toArray, List.getElem_cons_zero, List.getElem_cons_succ]
          (refine wpAnyH_take (i := 3) (v := ?v3x4) rfl (by kernel_rfl) (by kernel_rfl) (by kernel_rfl) (fun _ _ _ h => h) (Or.inl ⟨by rfl, ?hy3x4⟩) (by assumption) ?rest3x4; case hy3x4 => (intro w hSw; (try dsimp only at hSw); go_split_ands; go_simp; (try with_reducible rfl)))
          try simp only [Act.put, List.setIfInBounds_toArray, List.set_cons_zero, List.set_cons_succ, List.getElem_toArray, List.getElem_cons_zero, List.getElem_cons_succ]
          (refine wpAnyH_take (i := 4) (v := ?v4x5) rfl (by kernel_rfl) (by kernel_rfl) (by kernel_rfl) (fun _ _ _ h => h) (Or.inl ⟨by rfl, ?hy4x5⟩) (by assumption) ?rest4x5; case hy4x5 => (intro w hSw; (try dsimp only at hSw); go_split_ands; go_simp; (try with_reducible rfl)))
          try simp only [Act.put, List.setIfInBounds_toArray, List.set_cons_zero, List.set_cons_succ, List.getElem_toArray, List.getElem_cons_zero, List.getElem_cons_succ]
          (refine wpAnyH_take (i := 5) (v := ?v5x6) rfl (by kernel_rfl) (by kernel_rfl) (by kernel_rfl) (fun _ _ _ h => h) (Or.inl ⟨by rfl, ?hy5x6⟩) (by assumption) ?rest5x6; case hy5x6 => (intro w hSw; (try dsimp only at hSw); go_split_ands; go_simp; (try with_reducible rfl)))
          try simp only [Act.put, List.setIfInBounds_toArray, List.set_cons_zero, List.set_cons_succ, List.getElem_toArray, List.getElem_cons_zero, List.getElem_cons_succ]
          (refine wpAnyH_take (i := 6) (v := ?v6x7) rfl (by kernel_rfl) (by kernel_rfl) (by kernel_rfl) (fun _ _ _ h => h) (Or.inl ⟨by rfl, ?hy6x7⟩) (by assumption) ?rest6x7; case hy6x7 => (intro w hSw; (try dsimp only at hSw); go_split_ands; go_simp; (try with_reducible rfl)))
          try simp only [Act.put, List.setIfInBounds_toArray, List.set_cons_zero, List.set_cons_succ, List.getElem_toArray, List.getElem_cons_zero, List.getElem_cons_succ]
          (refine wpAnyH_take (i := 7) (v := ?v7x8) rfl (by kernel_rfl) (by kernel_rfl) (by kernel_rfl) (fun _ _ _ h => h) (Or.inl ⟨by rfl, ?hy7x8⟩) (by assumption) ?rest7x8; case hy7x8 => (intro w hSw; (try dsimp only at hSw); go_split_ands; go_simp; (try with_reducible rfl)))
          try simp only [Act.put, List.setIfInBounds_toArray, List.set_cons_zero, List.set_cons_succ, List.getElem_toArray, List.getElem_cons_zero, List.getElem_cons_succ]
          (refine wpAnyH_take (i := 8) (v := ?v8x9) rfl (by kernel_rfl) (by kernel_rfl) (by kernel_rfl) (fun _ _ _ h => h) (Or.inl ⟨by rfl, ?hy8x9⟩) (by assumption) ?rest8x9; case hy8x9 => (intro w hSw; (try dsimp only at hSw); go_split_ands; go_simp; (try with_reducible rfl)))
          try simp only [Act.put, List.setIfInBounds_toArray, List.set_cons_zero, List.set_cons_succ, List.getElem_toArray, List.getElem_cons_zero, List.getElem_cons_succ]
          (refine wpAnyH_take (i := 9) (v := ?v9x10) rfl (by kernel_rfl) (by kernel_rfl) (by kernel_rfl) (fun _ _ _ h => h) (Or.inl ⟨by rfl, ?hy9x10⟩) (by assumption) ?rest9x10; case hy9x10 => (intro w hSw; (try dsimp only at hSw); go_split_ands; go_simp; (try with_reducible rfl)))
          try simp only [Act.put, List.setIfInBounds_toArray, List.set_cons_zero, List.set_cons_succ, List.getElem_toArray, List.getElem_cons_zero, List.getElem_cons_succ]
          (refine wpAnyH_take (i := 10) (v := ?v10x11) rfl (by kernel_rfl) (by kernel_rfl) (by kernel_rfl) (fun _ _ _ h => h) (Or.inl ⟨by rfl, ?hy10x11⟩) (by assumption) ?rest10x11; case hy10x11 => (intro w hSw; (try dsimp only at hSw); go_split_ands; go_simp; (try with_reducible rfl)))
          try simp only [Act.put, List.setIfInBounds_toArray, List.set_cons_zero, List.set_cons_succ, List.getElem_toArray, List.getElem_cons_zero, List.getElem_cons_succ]
          (refine wpAnyH_take (i := 11) (v := ?v11x12) rfl (by kernel_rfl) (by kernel_rfl) (by kernel_rfl) (fun _ _ _ h => h) (Or.inl ⟨by rfl, ?hy11x12⟩) (by assumption) ?rest11x12; case hy11x12 => (intro w hSw; (try dsimp only at hSw); go_split_ands; go_simp; (try with_reducible rfl)))
          try simp only [Act.put, List.setIfInBounds_toArray, List.set_cons_zero, List.set_cons_succ, List.getElem_toArray, List.getElem_cons_zero, List.getElem_cons_succ]
          refine wpAnyH_done (by kernel_rfl) ?_ _
          clear hHeld
          obtain ⟨WA, HWA, HPA, HXA⟩ : ∃ WA, Hid (wr.drew = WA) ∧ Hid (Pt w WA n (.slice ao9 L.length cap9) L) ∧ Hid (WA.cell? ⟨bb, off + k * 5, none⟩ = some (.string x.path) ∧ WA.cell? ⟨bb, off + k * 5 + 1, none⟩ = some (.int .i64 x.a) ∧ WA.cell? ⟨bb, off + k * 5 + 2, none⟩ = some (.int .i64 x.b) ∧ WA.cell? ⟨bb, off + k * 5 + 3, none⟩ = some (.int .i64 x.c) ∧ WA.cell? ⟨bb, off + k * 5 + 4, none⟩ = some (.string x.pre)) := ⟨_, rfl, HP.out.drew, HCC.out⟩
          rw [HWA.out]
          clear c0 c1 c2 c3 c4 n0 n1 n2 n3 n4
          obtain ⟨n0, n1, n2, n3, n4⟩ := Nr.cells HPA.out.nr
          have y2 : L.length + 1 ≤ maxLen := by unfold maxLen; omega
          have y3 : (L.length + 1) * 56 ≤ 140737488355328 := by omega
          have HO7a : Hid (On 5 (WA.alloc (.cells #[.string n.path, .int .i64 n.a, .int .i64 n.b, .int .i64 n.c, .string n.pre] 47)) (w.heap.size + 1) (WA.alloc (.cells #[.string n.path, .int .i64 n.a, .int .i64 n.b, .int .i64 n.c, .string n.pre] 47)).heap.size 47 (.slice ao9 L.length cap9) L.length (nds L)) := On.alloc HPA.out.od _
          have HL7a : Hid (Sn 5 (WA.alloc (.cells #[.string n.path, .int .i64 n.a, .int .i64 n.b, .int .i64 n.c, .string n.pre] 47)) (.slice (some ⟨WA.heap.size, 0, none⟩) 1 1) 1 (nds [n])) := Sn.one 5 WA #[.string n.path, .int .i64 n.a, .int .i64 n.b, .int .i64 n.c, .string n.pre] 47 rfl
          have cb7 : (w.heap.size + 1) ≤ (WA.alloc (.cells #[.string n.path, .int .i64 n.a, .int .i64 n.b, .int .i64 n.c, .string n.pre] 47)).heap.size := by have := HPA.out.size; simp; omega
          go_wp2_with (at_builtin; go_must (refine wpl_appn 5 (by omega) _ rfl (.tmp 27) (.tmp 29) 26 rfl 47 i0 (.agg #[.string ⟨#[]⟩, .int .i64 0, .int .i64 0, .int .i64 0, .string ⟨#[]⟩]) 56 Tryz.underlying26 hi hz0 hz1 hz2 rfl (w.heap.size + 1) (.slice ao9 L.length cap9) L.length (nds L) rfl HO7a.out (.slice (some ⟨WA.heap.size, 0, none⟩) 1 1) rfl 1 (nds [n]) HL7a.out (nds_one _) y2 y3 cb7 ?_); intro v7 w7 ho7 hb7 hg7; (obtain ⟨a7, cp7, rfl⟩ := on_slice5 ho7); clear hg7)
          have HPt1 : Hid (Pt w w7 n (.slice a7 (L.length + 1) cp7) (L ++ [n])) := HPA.out.app ho7 hb7
          have HX1 : Hid (w7.cell? ⟨bb, off + k * 5, none⟩ = some (.string x.path) ∧ w7.cell? ⟨bb, off + k * 5 + 1, none⟩ = some (.int .i64 x.a) ∧ w7.cell? ⟨bb, off + k * 5 + 2, none⟩ = some (.int .i64 x.b) ∧ w7.cell? ⟨bb, off + k * 5 + 3, none⟩ = some (.int .i64 x.c) ∧ w7.cell? ⟨bb, off + k * 5 + 4, none⟩ = some (.string x.pre)) := by
            have hbA := HPA.out.size
            obtain ⟨c0, c1, c2, c3, c4⟩ := HXA.out
            have hq : Below (w.heap.size + 1) WA w7 := ((Below.refl _ _).alloc hbA _).trans hb7
            exact ⟨keepB c0 hq (by show bb < _; omega), keepB c1 hq (by show bb < _; omega), keepB c2 hq (by show bb < _; omega), keepB c3 hq (by show bb < _; omega), keepB c4 hq (by show bb < _; omega)⟩
          obtain ⟨W1, hW1⟩ : ∃ W1, w7 = W1 := ⟨_, rfl⟩
          rw [hW1] at HPt1 HX1
          rw [hW1]
          have HA1 : Hid (stepA n (L, false) x = (L ++ [n], true)) := by show _ = _; unfold stepA; rw [HLT.out]; rfl
          obtain ⟨L1, HL1, hlen⟩ : ∃ L1, Hid (L ++ [n] = L1) ∧ L.length + 1 = L1.length := ⟨_, rfl, by simp⟩
          rw [hlen, HL1.out] at HPt1
          rw [HL1.out] at HA1
          rw [hlen]
          have hL1 : L1.length ≤ 2 * k + 1 := by omega
          clear n0 n1 n2 n3 n4 HO7a HL7a ho7 hb7 hW1 hlen HP HPA HXA HWA HL1 y2 y3 hL cb7
          obtain ⟨c0, c1, c2, c3, c4⟩ := HX1.out
          obtain ⟨n0, n1, n2, n3, n4⟩ := Nr.cells HPt1.out.nr
          cases eq
          · have HZ : Hid ((l.take (k + 1)).foldl (stepN n) ([], false) = (L1 ++ [x], true)) := by show _ = _; rw [HT.out, HA1.out]; unfold stepB; rw [HEQ.out]; rfl
            go_wp2_with fail
            go_quiet (fail)
            generalize nq = nqz
            obtain ⟨WB, HWB, HPB, HXB⟩ : ∃ WB, Hid (W1.drewN nqz = WB) ∧ Hid (Pt w WB n (.slice a7 L1.length cp7) L1) ∧ Hid (WB.cell? ⟨bb, off + k * 5, none⟩ = some (.string x.path) ∧ WB.cell? ⟨bb, off + k * 5 + 1, none⟩ = some (.int .i64 x.a) ∧ WB.cell? ⟨bb, off + k * 5 + 2, none⟩ = some (.int .i64 x.b) ∧ WB.cell? ⟨bb, off + k * 5 + 3, none⟩ = some (.int .i64 x.c) ∧ WB.cell? ⟨bb, off + k * 5 + 4, none⟩ = some (.string x.pre)) := ⟨_, rfl, ⟨HPt1.out.od, HPt1.out.size, HPt1.out.nr, HPt1.out.below.trans ⟨rfl, rfl, rfl, Nat.le_refl _, fun _ _ => rfl⟩⟩, HX1.out⟩
            rw [HWB.out]
            clear c0 c1 c2 c3 c4 n0 n1 n2 n3 n4
            obtain ⟨c0, c1, c2, c3, c4⟩ := HXB.out
            have z2 : (L1).length + 1 ≤ maxLen := by unfold maxLen; first | omega | (simp; omega)
            have z3 : ((L1).length + 1) * 56 ≤ 140737488355328 := by first | omega | (simp; omega)
            have HO9a : Hid (On 5 (WB.alloc (.cells #[.string x.path, .int .i64 x.a, .int .i64 x.b, .int .i64 x.c, .string x.pre] 47)) (w.heap.size + 1) (WB.alloc (.cells #[.string x.path, .int .i64 x.a, .int .i64 x.b, .int .i64 x.c, .string x.pre] 47)).heap.size 47 (.slice a7 L1.length cp7) (L1).length (nds (L1))) := On.alloc HPB.out.od _
            have HL9a : Hid (Sn 5 (WB.alloc (.cells #[.string x.path, .int .i64 x.a, .int .i64 x.b, .int .i64 x.c, .string x.pre] 47)) (.slice (some ⟨WB.heap.size, 0, none⟩) 1 1) 1 (nds [x])) := Sn.one 5 WB #[.string x.path, .int .i64 x.a, .int .i64 x.b, .int .i64 x.c, .string x.pre] 47 rfl
            have cb9 : (w.heap.size + 1) ≤ (WB.alloc (.cells #[.string x.path, .int .i64 x.a, .int .i64 x.b, .int .i64 x.c, .string x.pre] 47)).heap.size := by have := HPB.out.size; simp; omega
            go_wp2_with (at_builtin; go_must (refine wpl_appn 5 (by omega) _ rfl (.tmp 39) (.tmp 44) 26 rfl 47 i0 (.agg #[.string ⟨#[]⟩, .int .i64 0, .int .i64 0, .int .i64 0, .string ⟨#[]⟩]) 56 Tryz.underlying26 hi hz0 hz1 hz2 rfl (w.heap.size + 1) (.slice a7 L1.length cp7) (L1).length (nds (L1)) rfl HO9a.out (.slice (some ⟨WB.heap.size, 0, none⟩) 1 1) rfl 1 (nds [x]) HL9a.out (nds_one _) z2 z3 cb9 ?_); intro v9 w9 ho9 hb9 hg9; skip)
            have P9 := HPB.out.app ho9 hb9
            clear HO9a HL9a hb9 ho9
            go_roundw
            case rel => exact ⟨k + 1, L1 ++ [x], true, by omega, by go_num, rfl, HZ, P9⟩
            case measure => simp [intOf]; omega
          · have HZ : Hid ((l.take (k + 1)).foldl (stepN n) ([], false) = (L1, true)) := by show _ = _; rw [HT.out, HA1.out]; unfold stepB; rw [HEQ.out]; rfl
            go_wp2_with fail
            go_quiet (fail)
            go_wp2
            go_roundw
            case rel => exact ⟨k + 1, L1, true, by omega, by go_num, rfl, HZ, ⟨HPt1.out.od, HPt1.out.size, HPt1.out.nr, HPt1.out.below.trans ⟨rfl, rfl, rfl, Nat.le_refl _, fun _ _ => rfl⟩⟩⟩
            case measure => simp [intOf]; omega

        · go_wp2_with fail
          refine wp_region_held_drew (S := fun w' => w'.cell? ⟨bb, off + k * 5, none⟩ = some (.string x.path) ∧ w'.cell? ⟨w.heap.size, 0, none⟩ = some (.string n.path)) (by kernel_rfl) ⟨c0, n0⟩ (fun hHeld => ?_)
          (refine wpAnyH_take (i := 0) (v := ?v0x13) rfl (by kernel_rfl) (by kernel_rfl) (by kernel_rfl) (fun _ _ _ h => h) (Or.inl ⟨by rfl, ?hy0x13⟩) (by assumption) ?rest0x13; case hy0x13 => (intro w hSw; (try dsimp only at hSw); go_split_ands; go_simp; (try with_reducible rfl)))
          try simp only [Act.put, List.setIfInBounds_toArray, List.set_cons_zero, List.set_cons_succ, List.getElem_toArray, List.getElem_cons_zero, List.getElem_cons_succ]
          (refine wpAnyH_take (i := 1) (v := ?v1x14) rfl (by kernel_rfl) (by kernel_rfl) (by kernel_rfl) (fun _ _ _ h => h) (Or.inl ⟨by rfl, ?hy1x14⟩) (by assumption) ?rest1x14; case hy1x14 => (intro w hSw; (try dsimp only at hSw); go_split_ands; go_simp; (try with_reducible rfl)))
          try simp only [Act.put, List.setIfInBounds_toArray, List.set_cons_zero, List.set_cons_succ, List.getElem_toArray, List.getElem_cons_zero, List.getElem_cons_succ]
          (refine wpAnyH_take (i := 2) (v := ?v2x15) rfl (by kernel_rfl) (by kernel_rfl) (by kernel_rfl) (fun _ _ _ h => h) (Or.inl ⟨by rfl, ?hy2x15⟩) (by assumption) ?rest2x15; case hy2x15 => (intro w hSw; (try dsimp only at hSw); go_split_ands; go_simp; (try with_reducible rfl)))
          try simp only [Act.put, List.setIfInBounds_toArray, List.set_cons_zero, List.set_cons_succ, List.getElem_toArray, List.getElem_cons_zero, List.getElem_cons_succ]
          (refine wpAnyH_take (i := 3) (v := ?v3x16) rfl (by kernel_rfl) (by kernel_rfl) (by kernel_rfl) (fun _ _ _ h => h) (Or.inl ⟨by rfl, ?hy3x16⟩) (by assumption) ?rest3x16; case hy3x16 => (intro w hSw; (try dsimp only at hSw); go_split_ands; go_simp; (try with_reducible rfl)))
          try simp only [Act.put, List.setIfInBounds_toArray, List.set_cons_zero, List.set_cons_succ, List.getElem_toArray, List.getElem_cons_zero, List.getElem_cons_succ]
          (refine wpAnyH_take (i := 4) (v := ?v4x17) rfl (by kernel_rfl) (by kernel_rfl) (by kernel_rfl) (fun _ _ _ h => h) (Or.inl ⟨by rfl, ?hy4x17⟩) (by assumption) ?rest4x17; case hy4x17 => (intro w hSw; (try dsimp only at hSw); go_split_ands; go_simp; (try with_reducible rfl)))
          try simp only [Act.put, List.setIfInBounds_toArray, List.set_cons_zero, List.set_cons_succ, List.getElem_toArray, List.getElem_cons_zero, List.getElem_cons_succ]
          (refine wpAnyH_take (i := 5) (v := ?v5x18) rfl (by kernel_rfl) (by kernel_rfl) (by kernel_rfl) (fun _ _ _ h => h) (Or.inl ⟨by rfl, ?hy5x18⟩) (by assumption) ?rest5x18; case hy5x18 => (intro w hSw; (try dsimp only at hSw); go_split_ands; go_simp; (try with_reducible rfl)))
          try simp only [Act.put, List.setIfInBounds_toArray, List.set_cons_zero, List.set_cons_succ, List.getElem_toArray, List.getElem_cons_zero, List.getElem_cons_succ]
          (refine wpAnyH_take (i := 6) (v := ?v6x19) rfl (by kernel_rfl) (by kernel_rfl) (by kernel_rfl) (fun _ _ _ h => h) (Or.inl ⟨by rfl, ?hy6x19⟩) (by assumption) ?rest6x19; case hy6x19 => (intro w hSw; (try dsimp only at hSw); go_split_ands; go_simp; (try with_reducible rfl)))
          try simp only [Act.put, List.setIfInBounds_toArray, List.set_cons_zero, List.set_cons_succ, List.getElem_toArray, List.getElem_cons_zero, List.getElem_cons_succ]
          (refine wpAnyH_take (i := 7) (v := ?v7x20) rfl (by kernel_rfl) (by kernel_rfl) (by kernel_rfl) (fun _ _ _ h => h) (Or.inl ⟨by rfl, ?hy7x20⟩) (by assumption) ?rest7x20; case hy7x20 => (intro w hSw; (try dsimp only at hSw); go_split_ands; go_simp; (try with_reducible rfl)))
          try simp only [Act.put, List.setIfInBounds_toArray, List.set_cons_zero, List.set_cons_succ, List.getElem_toArray, List.getElem_cons_zero, List.getElem_cons_succ]
          (refine wpAnyH_take (i := 8) (v := ?v8x21) rfl (by kernel_rfl) (by kernel_rfl) (by kernel_rfl) (fun _ _ _ h => h) (Or.inl ⟨by rfl, ?hy8x21⟩) (by assumption) ?rest8x21; case hy8x21 => (intro w hSw; (try dsimp only at hSw); go_split_ands; go_simp; (try with_reducible rfl)))
          try simp only [Act.put, List.setIfInBounds_toArray, List.set_cons_zero, List.set_cons_succ, List.getElem_toArray, List.getElem_cons_zero, List.getElem_cons_succ]
          (refine wpAnyH_take (i := 9) (v := ?v9x22) rfl (by kernel_rfl) (by kernel_rfl) (by kernel_rfl) (fun _ _ _ h => h) (Or.inl ⟨by rfl, ?hy9x22⟩) (by assumption) ?rest9x22; case hy9x22 => (intro w hSw; (try dsimp only at hSw); go_split_ands; go_simp; (try with_reducible rfl)))
          try simp only [Act.put, List.setIfInBounds_toArray, List.set_cons_zero, List.set_cons_succ, List.getElem_toArray, List.getElem_cons_zero, List.getElem_cons_succ]
          (refine wpAnyH_take (i := 10) (v := ?v10x23) rfl (by kernel_rfl) (by kernel_rfl) (by kernel_rfl) (fun _ _ _ h => h) (Or.inl ⟨by rfl, ?hy10x23⟩) (by assumption) ?rest10x23; case hy10x23 => (intro w hSw; (try dsimp only at hSw); go_split_ands; go_simp; (try with_reducible rfl)))
          try simp only [Act.put, List.setIfInBounds_toArray, List.set_cons_zero, List.set_cons_succ, List.getElem_toArray, List.getElem_cons_zero, List.getElem_cons_succ]
          (refine wpAnyH_take (i := 11) (v := ?v11x24) rfl (by kernel_rfl) (by kernel_rfl) (by kernel_rfl) (fun _ _ _ h => h) (Or.inl ⟨by rfl, ?hy11x24⟩) (by assumption) ?rest11x24; case hy11x24 => (intro w hSw; (try dsimp only at hSw); go_split_ands; go_simp; (try with_reducible rfl)))
          try simp only [Act.put, List.setIfInBounds_toArray, List.set_cons_zero, List.set_cons_succ, List.getElem_toArray, List.getElem_cons_zero, List.getElem_cons_succ]
          refine wpAnyH_done (by kernel_rfl) ?_ _
          clear hHeld
          obtain ⟨W2, HW2, HPt2, HX2⟩ : ∃ W2, Hid (wr.drew = W2) ∧ Hid (Pt w W2 n (.slice ao9 L.length cap9) L) ∧ Hid (W2.cell? ⟨bb, off + k * 5, none⟩ = some (.string x.path) ∧ W2.cell? ⟨bb, off + k * 5 + 1, none⟩ = some (.int .i64 x.a) ∧ W2.cell? ⟨bb, off + k * 5 + 2, none⟩ = some (.int .i64 x.b) ∧ W2.cell? ⟨bb, off + k * 5 + 3, none⟩ = some (.int .i64 x.c) ∧ W2.cell? ⟨bb, off + k * 5 + 4, none⟩ = some (.string x.pre)) := ⟨_, rfl, HP.out.drew, HCC.out⟩
          rw [HW2.out]
          have HA2 : Hid (stepA n (L, false) x = (L, false)) := by show _ = _; unfold stepA; rw [HLT.out]; rfl
          clear c0 c1 c2 c3 c4 n0 n1 n2 n3 n4
          obtain ⟨c0, c1, c2, c3, c4⟩ := HX2.out
          obtain ⟨n0, n1, n2, n3, n4⟩ := Nr.cells HPt2.out.nr
          cases eq
          · have HZ : Hid ((l.take (k + 1)).foldl (stepN n) ([], false) = (L ++ [x], false)) := by show _ = _; rw [HT.out, HA2.out]; unfold stepB; rw [HEQ.out]; rfl
            go_wp2_with fail
            go_quiet (fail)
            generalize nq = nqz
            obtain ⟨WB, HWB, HPB, HXB⟩ : ∃ WB, Hid (W2.drewN nqz = WB) ∧ Hid (Pt w WB n (.slice ao9 L.length cap9) L) ∧ Hid (WB.cell? ⟨bb, off + k * 5, none⟩ = some (.string x.path) ∧ WB.cell? ⟨bb, off + k * 5 + 1, none⟩ = some (.int .i64 x.a) ∧ WB.cell? ⟨bb, off + k * 5 + 2, none⟩ = some (.int .i64 x.b) ∧ WB.cell? ⟨bb, off + k * 5 + 3, none⟩ = some (.int .i64 x.c) ∧ WB.cell? ⟨bb, off + k * 5 + 4, none⟩ = some (.string x.pre)) := ⟨_, rfl, ⟨HPt2.out.od, HPt2.out.size, HPt2.out.nr, HPt2.out.below.trans ⟨rfl, rfl, rfl, Nat.le_refl _, fun _ _ => rfl⟩⟩, HX2.out⟩
            rw [HWB.out]
            clear c0 c1 c2 c3 c4 n0 n1 n2 n3 n4
            obtain ⟨c0, c1, c2, c3, c4⟩ := HXB.out
            have z2 : (L).length + 1 ≤ maxLen := by unfold maxLen; first | omega | (simp; omega)
            have z3 : ((L).length + 1) * 56 ≤ 140737488355328 := by first | omega | (simp; omega)
            have HO9a : Hid (On 5 (WB.alloc (.cells #[.string x.path, .int .i64 x.a, .int .i64 x.b, .int .i64 x.c, .string x.pre] 47)) (w.heap.size + 1) (WB.alloc (.cells #[.string x.path, .int .i64 x.a, .int .i64 x.b, .int .i64 x.c, .string x.pre] 47)).heap.size 47 (.slice ao9 L.length cap9) (L).length (nds (L))) := On.alloc HPB.out.od _
            have HL9a : Hid (Sn 5 (WB.alloc (.cells #[.string x.path, .int .i64 x.a, .int .i64 x.b, .int .i64 x.c, .string x.pre] 47)) (.slice (some ⟨WB.heap.size, 0, none⟩) 1 1) 1 (nds [x])) := Sn.one 5 WB #[.string x.path, .int .i64 x.a, .int .i64 x.b, .int .i64 x.c, .string x.pre] 47 rfl
            have cb9 : (w.heap.size + 1) ≤ (WB.alloc (.cells #[.string x.path, .int .i64 x.a, .int .i64 x.b, .int .i64 x.c, .string x.pre] 47)).heap.size := by have := HPB.out.size; simp; omega
            go_wp2_with (at_builtin; go_must (refine wpl_appn 5 (by omega) _ rfl (.tmp 39) (.tmp 44) 26 rfl 47 i0 (.agg #[.string ⟨#[]⟩, .int .i64 0, .int .i64 0, .int .i64 0, .string ⟨#[]⟩]) 56 Tryz.underlying26 hi hz0 hz1 hz2 rfl (w.heap.size + 1) (.slice ao9 L.length cap9) (L).length (nds (L)) rfl HO9a.out (.slice (some ⟨WB.heap.size, 0, none⟩) 1 1) rfl 1 (nds [x]) HL9a.out (nds_one _) z2 z3 cb9 ?_); intro v9 w9 ho9 hb9 hg9; skip)
            have P9 := HPB.out.app ho9 hb9
            clear HO9a HL9a hb9 ho9
            go_roundw
            case rel => exact ⟨k + 1, L ++ [x], false, by omega, by go_num, rfl, HZ, P9⟩
            case measure => simp [intOf]; omega
          · have HZ : Hid ((l.take (k + 1)).foldl (stepN n) ([], false) = (L, false)) := by show _ = _; rw [HT.out, HA2.out]; unfold stepB; rw [HEQ.out]; rfl
            go_wp2_with fail
            go_quiet (fail)
            go_wp2
            go_roundw
            case rel => exact ⟨k + 1, L, false, by omega, by go_num, rfl, HZ, ⟨HPt2.out.od, HPt2.out.size, HPt2.out.nr, HPt2.out.below.trans ⟨rfl, rfl, rfl, Nat.le_refl _, fun _ _ => rfl⟩⟩⟩
            case measure => simp [intOf]; omega
      · go_wp2_with fail
        refine wp_region_held_drew (S := fun w' => w'.cell? ⟨bb, off + k * 5, none⟩ = some (.string x.path) ∧ w'.cell? ⟨w.heap.size, 0, none⟩ = some (.string n.path)) (by kernel_rfl) ⟨c0, n0⟩ (fun hHeld => ?_)
        (refine wpAnyH_take (i := 0) (v := ?v0x25) rfl (by kernel_rfl) (by kernel_rfl) (by kernel_rfl) (fun _ _ _ h => h) (Or.inl ⟨by rfl, ?hy0x25⟩) (by assumption) ?rest0x25; case hy0x25 => (intro w hSw; (try dsimp only at hSw); go_split_ands; go_simp; (try with_reducible rfl)))
        try simp only [Act.put, List.setIfInBounds_toArray, List.set_cons_zero, List.set_cons_succ, List.getElem_toArray, List.getElem_cons_zero, List.getElem_cons_succ]
        (refine wpAnyH_take (i := 1) (v := ?v1x26) rfl (by kernel_rfl) (by kernel_rfl) (by kernel_rfl) (fun _ _ _ h => h) (Or.inl ⟨by rfl, ?hy1x26⟩) (by assumption) ?rest1x26; case hy1x26 => (intro w hSw; (try dsimp only at hSw); go_split_ands; go_simp; (try with_reducible rfl)))
        try simp only [Act.put, List.setIfInBounds_toArray, List.set_cons_zero, List.set_cons_succ, List.getElem_toArray, List.getElem_cons_zero, List.getElem_cons_succ]
        (refine wpAnyH_take (i := 2) (v := ?v2x27) rfl (by kernel_rfl) (by kernel_rfl) (by kernel_rfl) (fun _ _ _ h => h) (Or.inl ⟨by rfl, ?hy2x27⟩) (by assumption) ?rest2x27; case hy2x27 => (intro w hSw; (try dsimp only at hSw); go_split_ands; go_simp; (try with_reducible rfl)))
        try simp only [Act.put, List.setIfInBounds_toArray, List.set_cons_zero, List.set_cons_succ, List.getElem_toArray, List.getElem_cons_zero, List.getElem_cons_succ]
        (refine wpAnyH_take (i := 3) (v := undef) rfl (by kernel_rfl) (by kernel_rfl) (by kernel_rfl) (fun _ _ _ h => h) (Or.inr ⟨by rfl, rfl⟩) (by assumption) ?_)
        try simp only [Act.put, List.setIfInBounds_toArray, List.set_cons_zero, List.set_cons_succ, List.getElem_toArray, List.getElem_cons_zero, List.getElem_cons_succ]
        (refine wpAnyH_take (i := 4) (v := undef) rfl (by kernel_rfl) (by kernel_rfl) (by kernel_rfl) (fun _ _ _ h => h) (Or.inr ⟨by rfl, rfl⟩) (by assumption) ?_)
        try simp only [Act.put, List.setIfInBounds_toArray, List.set_cons_zero, List.set_cons_succ, List.getElem_toArray, List.getElem_cons_zero, List.getElem_cons_succ]
        (refine wpAnyH_take (i := 5) (v := undef) rfl (by kernel_rfl) (by kernel_rfl) (by kernel_rfl) (fun _ _ _ h => h) (Or.inr ⟨by rfl, rfl⟩) (by assumption) ?_)
        try simp only [Act.put, List.setIfInBounds_toArray, List.set_cons_zero, List.set_cons_succ, List.getElem_toArray, List.getElem_cons_zero, List.getElem_cons_succ]
        (refine wpAnyH_take (i := 6) (v := undef) rfl (by kernel_rfl) (by kernel_rfl) (by kernel_rfl) (fun _ _ _ h => h) (Or.inr ⟨by rfl, rfl⟩) (by assumption) ?_)
        try simp only [Act.put, List.setIfInBounds_toArray, List.set_cons_zero, List.set_cons_succ, List.getElem_toArray, List.getElem_cons_zero, List.getElem_cons_succ]
        (refine wpAnyH_take (i := 7) (v := undef) rfl (by kernel_rfl) (by kernel_rfl) (by kernel_rfl) (fun _ _ _ h => h) (Or.inr ⟨by rfl, rfl⟩) (by assumption) ?_)
        try simp only [Act.put, List.setIfInBounds_toArray, List.set_cons_zero, List.set_cons_succ, List.getElem_toArray, List.getElem_cons_zero, List.getElem_cons_succ]
        (refine wpAnyH_take (i := 8) (v := undef) rfl (by kernel_rfl) (by kernel_rfl) (by kernel_rfl) (fun _ _ _ h => h) (Or.inr ⟨by rfl, rfl⟩) (by assumption) ?_)
        try simp only [Act.put, List.setIfInBounds_toArray, List.set_cons_zero, List.set_cons_succ, List.getElem_toArray, List.getElem_cons_zero, List.getElem_cons_succ]
        (refine wpAnyH_take (i := 9) (v := undef) rfl (by kernel_rfl) (by kernel_rfl) (by kernel_rfl) (fun _ _ _ h => h) (Or.inr ⟨by rfl, rfl⟩) (by assumption) ?_)
        try simp only [Act.put, List.setIfInBounds_toArray, List.set_cons_zero, List.set_cons_succ, List.getElem_toArray, List.getElem_cons_zero, List.getElem_cons_succ]
        (refine wpAnyH_take (i := 10) (v := undef) rfl (by kernel_rfl) (by kernel_rfl) (by kernel_rfl) (fun _ _ _ h => h) (Or.inr ⟨by rfl, rfl⟩) (by assumption) ?_)
        try simp only [Act.put, List.setIfInBounds_toArray, List.set_cons_zero, List.set_cons_succ, List.getElem_toArray, List.getElem_cons_zero, List.getElem_cons_succ]
        (refine wpAnyH_take (i := 11) (v := ?v11x36) rfl (by kernel_rfl) (by kernel_rfl) (by kernel_rfl) (fun _ _ _ h => h) (Or.inl ⟨by rfl, ?hy11x36⟩) (by assumption) ?rest11x36; case hy11x36 => (intro w hSw; (try dsimp only at hSw); go_split_ands; go_simp; (try with_reducible rfl)))
        try simp only [Act.put, List.setIfInBounds_toArray, List.set_cons_zero, List.set_cons_succ, List.getElem_toArray, List.getElem_cons_zero, List.getElem_cons_succ]
        refine wpAnyH_done (by kernel_rfl) ?_ _
        clear hHeld
        obtain ⟨W3, HW3, HPt3, HX3⟩ : ∃ W3, Hid (wr.drew = W3) ∧ Hid (Pt w W3 n (.slice ao9 L.length cap9) L) ∧ Hid (W3.cell? ⟨bb, off + k * 5, none⟩ = some (.string x.path) ∧ W3.cell? ⟨bb, off + k * 5 + 1, none⟩ = some (.int .i64 x.a) ∧ W3.cell? ⟨bb, off + k * 5 + 2, none⟩ = some (.int .i64 x.b) ∧ W3.cell? ⟨bb, off + k * 5 + 3, none⟩ = some (.int .i64 x.c) ∧ W3.cell? ⟨bb, off + k * 5 + 4, none⟩ = some (.string x.pre)) := ⟨_, rfl, HP.out.drew, HCC.out⟩
        rw [HW3.out]
        have HA3 : Hid (stepA n (L, true) x = (L, true)) := by show _ = _; unfold stepA; rfl
        clear c0 c1 c2 c3 c4 n0 n1 n2 n3 n4
        obtain ⟨c0, c1, c2, c3, c4⟩ := HX3.out
        obtain ⟨n0, n1, n2, n3, n4⟩ := Nr.cells HPt3.out.nr
        cases eq
        · have HZ : Hid ((l.take (k + 1)).foldl (stepN n) ([], false) = (L ++ [x], true)) := by show _ = _; rw [HT.out, HA3.out]; unfold stepB; rw [HEQ.out]; rfl
          go_wp2_with fail
          go_quiet (fail)
          generalize nq = nqz
          obtain ⟨WB, HWB, HPB, HXB⟩ : ∃ WB, Hid (W3.drewN nqz = WB) ∧ Hid (Pt w WB n (.slice ao9 L.length cap9) L) ∧ Hid (WB.cell? ⟨bb, off + k * 5, none⟩ = some (.string x.path) ∧ WB.cell? ⟨bb, off + k * 5 + 1, none⟩ = some (.int .i64 x.a) ∧ WB.cell? ⟨bb, off + k * 5 + 2, none⟩ = some (.int .i64 x.b) ∧ WB.cell? ⟨bb, off + k * 5 + 3, none⟩ = some (.int .i64 x.c) ∧ WB.cell? ⟨bb, off + k * 5 + 4, none⟩ = some (.string x.pre)) := ⟨_, rfl, ⟨HPt3.out.od, HPt3.out.size, HPt3.out.nr, HPt3.out.below.trans ⟨rfl, rfl, rfl, Nat.le_refl _, fun _ _ => rfl⟩⟩, HX3.out⟩
          rw [HWB.out]
          clear c0 c1 c2 c3 c4 n0 n1 n2 n3 n4
          obtain ⟨c0, c1, c2, c3, c4⟩ := HXB.out
          have z2 : (L).length + 1 ≤ maxLen := by unfold maxLen; first | omega | (simp; omega)
          have z3 : ((L).length + 1) * 56 ≤ 140737488355328 := by first | omega | (simp; omega)
          have HO9a : Hid (On 5 (WB.alloc (.cells #[.string x.path, .int .i64 x.a, .int .i64 x.b, .int .i64 x.c, .string x.pre] 47)) (w.heap.size + 1) (WB.alloc (.cells #[.string x.path, .int .i64 x.a, .int .i64 x.b, .int .i64 x.c, .string x.pre] 47)).heap.size 47 (.slice ao9 L.length cap9) (L).length (nds (L))) := On.alloc HPB.out.od _
          have HL9a : Hid (Sn 5 (WB.alloc (.cells #[.string x.path, .int .i64 x.a, .int .i64 x.b, .int .i64 x.c, .string x.pre] 47)) (.slice (some ⟨WB.heap.size, 0, none⟩) 1 1) 1 (nds [x])) := Sn.one 5 WB #[.string x.path, .int .i64 x.a, .int .i64 x.b, .int .i64 x.c, .string x.pre] 47 rfl
          have cb9 : (w.heap.size + 1) ≤ (WB.alloc (.cells #[.string x.path, .int .i64 x.a, .int .i64 x.b, .int .i64 x.c, .string x.pre] 47)).heap.size := by have := HPB.out.size; simp; omega
          go_wp2_with (at_builtin; go_must (refine wpl_appn 5 (by omega) _ rfl (.tmp 39) (.tmp 44) 26 rfl 47 i0 (.agg #[.string ⟨#[]⟩, .int .i64 0, .int .i64 0, .int .i64 0, .string ⟨#[]⟩]) 56 Tryz.underlying26 hi hz0 hz1 hz2 rfl (w.heap.size + 1) (.slice ao9 L.length cap9) (L).length (nds (L)) rfl HO9a.out (.slice (some ⟨WB.heap.size, 0, none⟩) 1 1) rfl 1 (nds [x]) HL9a.out (nds_one _) z2 z3 cb9 ?_); intro v9 w9 ho9 hb9 hg9; skip)
          have P9 := HPB.out.app ho9 hb9
          clear HO9a HL9a hb9 ho9
          go_roundw
          case rel => exact ⟨k + 1, L ++ [x], true, by omega, by go_num, rfl, HZ, P9⟩
          case measure => simp [intOf]; omega
        · have HZ : Hid ((l.take (k + 1)).foldl (stepN n) ([], false) = (L, true)) := by show _ = _; rw [HT.out, HA3.out]; unfold stepB; rw [HEQ.out]; rfl
          go_wp2_with fail
          go_quiet (fail)
          go_wp2
          go_roundw
          case rel => exact ⟨k + 1, L, true, by omega, by go_num, rfl, HZ, ⟨HPt3.out.od, HPt3.out.size, HPt3.out.nr, HPt3.out.below.trans ⟨rfl, rfl, rfl, Nat.le_refl _, fun _ _ => rfl⟩⟩⟩
          case measure => simp [intOf]; omega
    · have HN : Hid (insN l n = if b = true then L else L ++ [n]) := by
        show _ = _
        have := HA.out
        rw [List.take_of_length_le (by omega)] at this
        unfold insN
        rw [this]
      cases b
      · have HF : Hid (insN l n = L ++ [n]) := HN.out
        obtain ⟨n0, n1, n2, n3, n4⟩ := Nr.cells hP.nr
        clear HN HA hP
        have y2 : L.length + 1 ≤ maxLen := by unfold maxLen; omega
        have y3 : (L.length + 1) * 56 ≤ 140737488355328 := by omega
        have HO7a : Hid (On 5 (wr.alloc (.cells #[.string n.path, .int .i64 n.a, .int .i64 n.b, .int .i64 n.c, .string n.pre] 47)) (w.heap.size + 1) (wr.alloc (.cells #[.string n.path, .int .i64 n.a, .int .i64 n.b, .int .i64 n.c, .string n.pre] 47)).heap.size 47 (.slice ao9 L.length cap9) L.length (nds L)) := On.alloc HP.out.od _
        have HL7a : Hid (Sn 5 (wr.alloc (.cells #[.string n.path, .int .i64 n.a, .int .i64 n.b, .int .i64 n.c, .string n.pre] 47)) (.slice (some ⟨wr.heap.size, 0, none⟩) 1 1) 1 (nds [n])) := Sn.one 5 wr #[.string n.path, .int .i64 n.a, .int .i64 n.b, .int .i64 n.c, .string n.pre] 47 rfl
        have cb7 : (w.heap.size + 1) ≤ (wr.alloc (.cells #[.string n.path, .int .i64 n.a, .int .i64 n.b, .int .i64 n.c, .string n.pre] 47)).heap.size := by have := HP.out.size; simp; omega
        go_wp2_with (at_builtin; go_must (refine wpl_appn 5 (by omega) _ rfl (.tmp 48) (.tmp 50) 26 rfl 47 i0 (.agg #[.string ⟨#[]⟩, .int .i64 0, .int .i64 0, .int .i64 0, .string ⟨#[]⟩]) 56 Tryz.underlying26 hi hz0 hz1 hz2 rfl (w.heap.size + 1) (.slice ao9 L.length cap9) L.length (nds L) rfl HO7a.out (.slice (some ⟨wr.heap.size, 0, none⟩) 1 1) rfl 1 (nds [n]) HL7a.out (nds_one _) y2 y3 cb7 ?_); intro v7 w7 ho7 hb7 hg7; skip)
        have P7 := HP.out.app ho7 hb7
        go_ret
        exact ⟨_, rfl, by rw [HF.out]; exact On.mono P7.od (by omega) (Nat.le_refl _), P7.below⟩
      · have HF : Hid (insN l n = L) := HN.out
        clear HN HA
        go_wp2
        go_ret
        exact ⟨_, rfl, by rw [HF.out]; exact On.mono hP.od (by omega) (Nat.le_refl _), hP.below⟩

end Go.Proofs.YtbopliahafkecaaGreatDoor.Ent
