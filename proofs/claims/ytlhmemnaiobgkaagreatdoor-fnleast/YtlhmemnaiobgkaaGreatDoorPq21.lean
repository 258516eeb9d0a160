/- Texts in one: EntI, Se4. -/
import Derived.Test.YtlhmemnaiobgkaaGreatDoorPq13
import Derived.Test.YtlhmemnaiobgkaaGreatDoorPq12
import Derived.Test.YtlhmemnaiobgkaaGreatDoorPq8
import Derived.Test.YtlhmemnaiobgkaaGreatDoorPq18
/- Chapter 5, the laws' helpers: lists of needs and entries held against each other, as the language does it. -/
namespace Go.Proofs.YtlhmemnaiobgkaaGreatDoor.Ent
open Go.RowKit Go.Proofs.YtlhmemnaiobgkaaGreatDoor.Mem Go.Proofs.YtlhmemnaiobgkaaGreatDoor.Laws Go.Proofs.YtlhmemnaiobgkaaGreatDoor.Bytes Go.Proofs.YtlhmemnaiobgkaaGreatDoor.Sha Go.Proofs.YtlhmemnaiobgkaaGreatDoor.Ver Go.Proofs.YtlhmemnaiobgkaaGreatDoor.Mod
set_option linter.unusedVariables false
set_option linter.unusedSimpArgs false

theorem fieldsN : Tryz.prog.underlying 38 = some (.struct (Tryz.prog.fieldsOf 38)) := by kernel_rfl
theorem heldN : Tryz.prog.stoodInHeld 38 = false := by kernel_rfl
theorem guardN : Tryz.prog.eqGuardType Tryz.prog.depth 38 = false := by kernel_rfl
theorem eqVs (w : World) (a1 b1 c1 : Int) (p1 : ByteArray) :
    (Op.equalIn 9999 32 (.agg #[.int .i64 a1, .int .i64 b1, .int .i64 c1, .string p1]) (.agg #[.int .i64 a1, .int .i64 b1, .int .i64 c1, .string p1])).run Tryz.prog w = .ok true w := by
  rw [run_equalIn_struct w 9998 _ _ _ fieldsV heldV]
  simp [Program.fieldsOf, Tryz.underlying32, Op.eqFields, go_sem, run_underlying Tryz.underlying3, run_underlying Tryz.underlying9, Tryz.underlying3, Tryz.underlying9, part]
theorem eqNs (w : World) (s : ByteArray) (a1 b1 c1 : Int) (p1 : ByteArray) :
    (Op.equalIn 10000 38 (.agg #[.string s, .int .i64 a1, .int .i64 b1, .int .i64 c1, .string p1]) (.agg #[.string s, .int .i64 a1, .int .i64 b1, .int .i64 c1, .string p1])).run Tryz.prog w = .ok true w := by
  rw [run_equalIn_struct w 9999 _ _ _ fieldsN heldN]
  simp [Program.fieldsOf, Tryz.underlying38, Op.eqFields, go_sem, run_underlying Tryz.underlying9, Tryz.underlying9, Tryz.underlying32, part, eqVs]
theorem neqNs (w : World) (s : ByteArray) (a1 b1 c1 : Int) (p1 : ByteArray) :
    (binOp .neq 38 (.agg #[.string s, .int .i64 a1, .int .i64 b1, .int .i64 c1, .string p1]) (.agg #[.string s, .int .i64 a1, .int .i64 b1, .int .i64 c1, .string p1])).run Tryz.prog w = .ok (.bool false) w := by
  rw [run_neq_struct, eqNs]
  rfl
theorem grdN (w : World) (op : BinOp) (x y : Operand) (xs ys : Array Value) : (eqGuard op 38 x y (.agg xs) (.agg ys)).run Tryz.prog w = .ok () w := run_eqGuard_agg w op 38 x y xs ys guardN

set_option maxRecDepth 1000000 in
set_option maxHeartbeats 4000000 in
theorem same_needs (w : World) (v1 v2 : Value) (l : List Nd) (h1 : Sd w v1 l) (h2 : Sd w v2 l) (hx : l.length ≤ 1000000000000) :
    Calls Tryz.prog 11 #[v1, v2] w fun e w' => e = .returned (.bool true) ∧ Below w.heap.size w w' := by
  have HS1 : Hid (Sd w v1 l) := h1
  have HS2 : Hid (Sd w v2 l) := h2
  obtain ⟨_, ao, cap, rfl, hcap, _, _⟩ := h1
  obtain ⟨_, ao2, cap2, rfl, hcap2, _, _⟩ := h2
  have n1 : ((l.length : Int) != (l.length : Int)) = false := by simp
  go_enter Tryz.func11, Tryz.ntmps11
  go_wp2
  go_loopw [5] (fun i wr => ∃ k : Nat, k ≤ l.length ∧ i = .int .i64 (k : Int) ∧ Below w.heap.size w wr) (fun i _ => l.length - (intOf i).toNat)
  case atStart => exact ⟨0, Nat.zero_le _, rfl, Below.refl _ _⟩
  case round =>
    obtain ⟨k, hk, rfl, hB⟩ := hrel
    by_cases hlt : k < l.length
    · obtain ⟨n, hn⟩ : ∃ n, l[k]? = some n := ⟨l[k], by simp [hlt]⟩
      obtain ⟨b, off, cap', he, _, c0, c1, c2, c3, c4⟩ := Sd.at (HS1.out.later hB) hn
      simp only [Value.slice.injEq] at he
      obtain ⟨rfl, _, rfl⟩ := he
      obtain ⟨b2, off2, cap2', he2, _, e0, e1, e2, e3, e4⟩ := Sd.at (HS2.out.later hB) hn
      simp only [Value.slice.injEq] at he2
      obtain ⟨rfl, _, rfl⟩ := he2
      have hgd := grdN
      have hqn := fun W => neqNs W n.path n.a n.b n.c n.pre
      clear hn n1
      go_wp2_with fail
      refine wp_region_held_drew (S := fun w' => w'.cell? ⟨b, off + k * 5, none⟩ = some (.string n.path) ∧ w'.cell? ⟨b, off + k * 5 + 1, none⟩ = some (.int .i64 n.a) ∧ w'.cell? ⟨b, off + k * 5 + 2, none⟩ = some (.int .i64 n.b) ∧ w'.cell? ⟨b, off + k * 5 + 3, none⟩ = some (.int .i64 n.c) ∧ w'.cell? ⟨b, off + k * 5 + 4, none⟩ = some (.string n.pre) ∧ w'.cell? ⟨b2, off2 + k * 5, none⟩ = some (.string n.path) ∧ w'.cell? ⟨b2, off2 + k * 5 + 1, none⟩ = some (.int .i64 n.a) ∧ w'.cell? ⟨b2, off2 + k * 5 + 2, none⟩ = some (.int .i64 n.b) ∧ w'.cell? ⟨b2, off2 + k * 5 + 3, none⟩ = some (.int .i64 n.c) ∧ w'.cell? ⟨b2, off2 + k * 5 + 4, none⟩ = some (.string n.pre)) (by kernel_rfl) ⟨c0, c1, c2, c3, c4, e0, e1, e2, e3, e4⟩ (fun hHeld => ?_)
      (refine wpAnyH_take (i := 0) (v := ?v0x1) rfl (by kernel_rfl) (by kernel_rfl) (by kernel_rfl) (fun _ _ _ h => h) (Or.inl ⟨by rfl, ?hy0x1⟩) (by assumption) ?rest0x1; case hy0x1 => (intro w hSw; (try dsimp only at hSw); go_split_ands; go_simp; (try with_reducible rfl)))
      try simp only [Act.put, List.setIfInBounds_toArray, List.set_cons_zero, List.set_cons_succ, List.getElem_toArray, List.getElem_cons_zero, List.getElem_cons_succ]
      (refine wpAnyH_take (i := 1) (v := ?v1x2) rfl (by kernel_rfl) (by kernel_rfl) (by kernel_rfl) (fun _ _ _ h => h) (Or.inl ⟨by rfl, ?hy1x2⟩) (by assumption) ?rest1x2; case hy1x2 => (intro w hSw; (try dsimp only at hSw); go_split_ands; go_simp; (try with_reducible rfl)))
      try simp only [Act.put, List.setIfInBounds_toArray, List.set_cons_zero, List.set_cons_succ, List.getElem_toArray, List.getElem_cons_zero, List.getElem_cons_succ]
      (refine wpAnyH_take (i := 2) (v := ?v2x3) rfl (by kernel_rfl) (by kernel_rfl) (by kernel_rfl) (fun _ _ _ h => h) (Or.inl ⟨by rfl, ?hy2x3⟩) (by assumption) ?rest2x3; case hy2x3 => (intro w hSw; (try dsimp only at hSw); go_split_ands; go_simp; (try with_reducible rfl)))
      try simp only [Act.put, List.setIfInBounds_toArray, List.set_cons_zero, List.set_cons_succ, List.getElem_toArray, List.getElem_cons_zero, List.getElem_cons_succ]
      (refine wpAnyH_take (i := 3) (v := ?v3x4) rfl (by kernel_rfl) (by kernel_rfl) (by kernel_rfl) (fun _ _ _ h => h) (Or.inl ⟨by rfl, ?hy3x4⟩) (by assumption) ?rest3x4; case hy3x4 => (intro w hSw; (try dsimp only at hSw); go_split_ands; go_simp; (try with_reducible rfl)))
      try simp only [Act.put, List.setIfInBounds_toArray, List.set_cons_zero, List.set_cons_succ, List.getElem_toArray, List.getElem_cons_zero, List.getElem_cons_succ]
      (refine wpAnyH_take (i := 4) (v := ?v4x5) rfl (by kernel_rfl) (by kernel_rfl) (by kernel_rfl) (fun _ _ _ h => h) (Or.inl ⟨by rfl, ?hy4x5⟩) (by assumption) ?rest4x5; case hy4x5 => (intro w hSw; (try dsimp only at hSw); go_split_ands; go_simp; (try with_reducible rfl)))
      try simp only [Act.put, List.setIfInBounds_toArray, List.set_cons_zero, List.set_cons_succ, List.getElem_toArray, List.getElem_cons_zero, List.getElem_cons_succ]
      (refine wpAnyH_take (i := 5) (v := ?v5x6) rfl (by kernel_rfl) (by kernel_rfl) (by kernel_rfl) (fun _ _ _ h => h) (Or.inl ⟨by rfl, ?hy5x6⟩) (by assumption) ?rest5x6; case hy5x6 => (intro w hSw; (try dsimp only at hSw); go_split_ands; go_simp; (try with_reducible rfl)))
      try simp only [Act.put, List.setIfInBounds_toArray, List.set_cons_zero, List.set_cons_succ, List.getElem_toArray, List.getElem_cons_zero, List.getElem_cons_succ]
      (refine wpAnyH_take (i := 6) (v := ?v6x7) rfl (by kernel_rfl) (by kernel_rfl) (by kernel_rfl) (fun _ _ _ h => h) (Or.inl ⟨by rfl, ?hy6x7⟩) (by assumption) ?rest6x7; case hy6x7 => (intro w hSw; (try dsimp only at hSw); go_split_ands; go_simp; (try with_reducible rfl)))
      try simp only [Act.put, List.setIfInBounds_toArray, List.set_cons_zero, List.set_cons_succ, List.getElem_toArray, List.getElem_cons_zero, List.getElem_cons_succ]
      (refine wpAnyH_take (i := 7) (v := ?v7x8) rfl (by kernel_rfl) (by kernel_rfl) (by kernel_rfl) (fun _ _ _ h => h) (Or.inl ⟨by rfl, ?hy7x8⟩) (by assumption) ?rest7x8; case hy7x8 => (intro w hSw; (try dsimp only at hSw); go_split_ands; go_simp; (try with_reducible rfl)))
      try simp only [Act.put, List.setIfInBounds_toArray, List.set_cons_zero, List.set_cons_succ, List.getElem_toArray, List.getElem_cons_zero, List.getElem_cons_succ]
      (refine wpAnyH_take (i := 8) (v := ?v8x9) rfl (by kernel_rfl) (by kernel_rfl) (by kernel_rfl) (fun _ _ _ h => h) (Or.inl ⟨by rfl, ?hy8x9⟩) (by assumption) ?rest8x9; case hy8x9 => (intro w hSw; (try dsimp only at hSw); go_split_ands; go_simp; (try with_reducible rfl)))
      try simp only [Act.put, List.setIfInBounds_toArray, List.set_cons_zero, List.set_cons_succ, List.getElem_toArray, List.getElem_cons_zero, List.getElem_cons_succ]
      refine wpAnyH_done (by kernel_rfl) ?_ _
      clear hHeld c0 c1 c2 c3 c4 e0 e1 e2 e3 e4
      go_wp2
      go_roundw
      case rel => exact ⟨k + 1, by omega, by go_num, Below.drew hB⟩
      case measure => simp [intOf]; omega
    · go_wp2
      go_ret
      exact ⟨rfl, hB⟩

end Go.Proofs.YtlhmemnaiobgkaaGreatDoor.Ent

/- Chapter 16, the specification's side: is a need in a row. -/
namespace Go.Proofs.YtlhmemnaiobgkaaGreatDoor.Se
open Go.RowKit Go.Proofs.YtlhmemnaiobgkaaGreatDoor.Mem Go.Proofs.YtlhmemnaiobgkaaGreatDoor.Laws Go.Proofs.YtlhmemnaiobgkaaGreatDoor.Ver Go.Proofs.YtlhmemnaiobgkaaGreatDoor.Ent Go.Proofs.YtlhmemnaiobgkaaGreatDoor.Fe
set_option linter.unusedVariables false
set_option linter.unusedSimpArgs false

theorem eqVin (w : World) (a1 b1 c1 : Int) (p1 : ByteArray) (a2 b2 c2 : Int) (p2 : ByteArray) :
    (Op.equalIn 9999 32 (.agg #[.int .i64 a1, .int .i64 b1, .int .i64 c1, .string p1]) (.agg #[.int .i64 a2, .int .i64 b2, .int .i64 c2, .string p2])).run Tryz.prog w = .ok (sameV a1 b1 c1 p1 a2 b2 c2 p2) w := by
  rw [run_equalIn_struct w 9998 _ _ _ fieldsV heldV]
  simp [Program.fieldsOf, Tryz.underlying32, Op.eqFields, go_sem, run_underlying Tryz.underlying3, run_underlying Tryz.underlying9, Tryz.underlying3, Tryz.underlying9, part]
  unfold sameV
  repeat' split
  all_goals simp_all
theorem eqNrun (w : World) (x q : Nd) :
    (Op.equalIn 10000 38 (.agg #[.string x.path, .int .i64 x.a, .int .i64 x.b, .int .i64 x.c, .string x.pre]) (.agg #[.string q.path, .int .i64 q.a, .int .i64 q.b, .int .i64 q.c, .string q.pre])).run Tryz.prog w = .ok (isN q x) w := by
  rw [run_equalIn_struct w 9999 _ _ _ fieldsN heldN]
  simp [Program.fieldsOf, Tryz.underlying38, Op.eqFields, go_sem, run_underlying Tryz.underlying9, Tryz.underlying9, Tryz.underlying32, part, eqVin]
  unfold isN
  cases h1 : (x.path.toList == q.path.toList) <;> cases h2 : sameV x.a x.b x.c x.pre q.a q.b q.c q.pre <;> simp_all
theorem eqlN (w : World) (x q : Nd) :
    (binOp .eql 38 (.agg #[.string x.path, .int .i64 x.a, .int .i64 x.b, .int .i64 x.c, .string x.pre]) (.agg #[.string q.path, .int .i64 q.a, .int .i64 q.b, .int .i64 q.c, .string q.pre])).run Tryz.prog w = .ok (.bool (isN q x)) w := by
  rw [run_eql_struct, eqNrun]
  rfl
theorem has16_hit {l : List Nd} {q x : Nd} {k : Nat} (h : l[k]? = some x) (he : isN q x = true) : has16 l q = true := by
  unfold has16
  rw [List.any_eq_true]
  exact ⟨x, List.mem_of_getElem? h, he⟩
theorem has16_none {l : List Nd} {q : Nd} (h : ∀ x ∈ l, isN q x = false) : has16 l q = false := by
  unfold has16
  rw [List.any_eq_false]
  intro x hx
  rw [h x hx]
  decide

set_option maxRecDepth 1000000 in
set_option maxHeartbeats 4000000 in
theorem has_spec (w : World) (v : Value) (l : List Nd) (q : Nd) (h : Sd w v l) (hl : l.length ≤ 1000000000000) :
    Calls Tryz.prog 47 #[v, .agg #[.string q.path, .int .i64 q.a, .int .i64 q.b, .int .i64 q.c, .string q.pre]] w fun e w' => e = .returned (.bool (has16 l q)) ∧ Below w.heap.size w w' := by
  have HS : Hid (Sd w v l) := h
  obtain ⟨_, ao, cap, rfl, hcap, _, _⟩ := h
  have B0 : Hid (Below w.heap.size w w) := Below.refl _ _
  obtain ⟨W1, HW1, b1, y1, hS1, r_q1⟩ := Ke.l1 w #[.string q.path, .int .i64 q.a, .int .i64 q.b, .int .i64 q.c, .string q.pre] 38
  have z1 := b1.size
  have B1 := Ke.b B0 b1
  have c_q1 := Ke.c r_q1
  go_enter Tryz.func47, Tryz.ntmps47
  go_wp2_with fail
  rw [HW1.out]
  go_loopw [5] (fun i wr => ∃ k : Nat, k ≤ l.length ∧ i = .int .i64 (k : Int) ∧ Hid (∀ x ∈ l.take k, isN q x = false) ∧ Hid (Below w.heap.size w wr) ∧ Hid (wr.heap[w.heap.size]? = some (.cells #[.string q.path, .int .i64 q.a, .int .i64 q.b, .int .i64 q.c, .string q.pre] 38 (0, 0)))) (fun i _ => l.length - (intOf i).toNat)
  case atStart => exact ⟨0, Nat.zero_le _, rfl, (fun x hx => by simp at hx), B1, r_q1⟩
  case round =>
    obtain ⟨k, hk, rfl, HN, B2, r_q2⟩ := hrel
    obtain ⟨W2, hW2⟩ : ∃ X, X = wr := ⟨_, rfl⟩
    subst hW2
    clear r_q1 c_q1
    have c_q2 := Ke.c r_q2
    by_cases hlt : k < l.length
    · have hlt2 : (k : Int) < (l.length : Int) := by omega
      obtain ⟨x, hx⟩ : ∃ x, l[k]? = some x := ⟨l[k], by simp [hlt]⟩
      obtain ⟨b, off, cap9, he, _, m0, m1, m2, m3, m4⟩ := Sd.at (HS.out.later B2.out) hx
      simp only [Value.slice.injEq] at he
      obtain ⟨rfl, _, rfl⟩ := he
      have HX : Hid (l[k]? = some x) := hx
      clear hx
      obtain ⟨V, hV⟩ : ∃ V, isN q x = V := ⟨_, rfl⟩
      have HI : Hid (isN q x = V) := hV
      have ev : ∀ W, _ := fun W => eqlN W x q
      simp only [hV] at ev
      have gv : ∀ W op y z xs ys, _ := fun W op y z xs ys => grdN W op y z xs ys
      clear hV
      go_wp2_with fail
      refine wp_region_held_drew (S := fun w' => w'.cell? ⟨w.heap.size, 0, none⟩ = some (.string q.path) ∧ w'.cell? ⟨w.heap.size, 1, none⟩ = some (.int .i64 q.a) ∧ w'.cell? ⟨w.heap.size, 2, none⟩ = some (.int .i64 q.b) ∧ w'.cell? ⟨w.heap.size, 3, none⟩ = some (.int .i64 q.c) ∧ w'.cell? ⟨w.heap.size, 4, none⟩ = some (.string q.pre) ∧ w'.cell? ⟨b, off + k * 5, none⟩ = some (.string x.path) ∧ w'.cell? ⟨b, off + k * 5 + 1, none⟩ = some (.int .i64 x.a) ∧ w'.cell? ⟨b, off + k * 5 + 2, none⟩ = some (.int .i64 x.b) ∧ w'.cell? ⟨b, off + k * 5 + 3, none⟩ = some (.int .i64 x.c) ∧ w'.cell? ⟨b, off + k * 5 + 4, none⟩ = some (.string x.pre)) (by kernel_rfl) ⟨(c_q2 0), (c_q2 1), (c_q2 2), (c_q2 3), (c_q2 4), m0, m1, m2, m3, m4⟩ (fun hHeld => ?_)
      refine Ke.y 0 rfl (fun _ _ _ h => h) ?_
      try simp only [Act.put, pu1, pu2, pu3, pu4, pu5, pu6]
      refine Ke.y 1 rfl (fun _ _ _ h => h) ?_
      try simp only [Act.put, pu1, pu2, pu3, pu4, pu5, pu6]
      refine Ke.y 2 rfl (fun _ _ _ h => h) ?_
      try simp only [Act.put, pu1, pu2, pu3, pu4, pu5, pu6]
      refine Ke.y 3 rfl (fun _ _ _ h => h) ?_
      try simp only [Act.put, pu1, pu2, pu3, pu4, pu5, pu6]
      refine Ke.y 4 rfl (fun _ _ _ h => h) ?_
      try simp only [Act.put, pu1, pu2, pu3, pu4, pu5, pu6]
      refine Ke.y 5 rfl (fun _ _ _ h => h) ?_
      try simp only [Act.put, pu1, pu2, pu3, pu4, pu5, pu6]
      refine wpAnyH_done (by kernel_rfl) ?_ _
      clear hHeld
      obtain ⟨W3, HW3, b3⟩ : ∃ X, Hid (W2.drew = X) ∧ Below W2.heap.size W2 X := ⟨_, rfl, Below.drew (Below.refl _ _)⟩
      rw [HW3.out]
      have z3 := b3.size
      have B3 := Ke.b B2 b3
      have r_q3 := Ke.r r_q2 b3
      have c_q3 := Ke.c r_q3
      clear r_q2 c_q2
      cases V
      · go_wp2
        go_roundw
        case rel => exact ⟨k + 1, by omega, by go_num, fun y hy => by rw [take_snoc15 HX.out] at hy; rcases List.mem_append.1 hy with h9 | h9; exact HN.out y h9; rw [List.mem_singleton.1 h9]; exact HI.out, B3, r_q3⟩
        case measure => simp [intOf]; omega
      · go_wp2
        go_ret
        exact ⟨by rw [has16_hit HX.out HI.out]; rfl, B3.out⟩
    · have hlt2 : ¬ (k : Int) < (l.length : Int) := by omega
      have HE : Hid (k = l.length) := by show _ = _; omega
      go_wp2
      go_ret
      exact ⟨by rw [has16_none (fun y hy => HN.out y (by rw [HE.out, List.take_length]; exact hy))]; rfl, B2.out⟩

end Go.Proofs.YtlhmemnaiobgkaaGreatDoor.Se
