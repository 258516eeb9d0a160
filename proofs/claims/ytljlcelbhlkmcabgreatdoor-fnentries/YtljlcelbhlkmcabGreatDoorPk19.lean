/- Texts in one: OrdE, EntI. -/
import Derived.Test.YtljlcelbhlkmcabGreatDoorPk7
import Derived.Test.YtljlcelbhlkmcabGreatDoorPk12
import Derived.Laws.StructEq
/- Two versions held against each other, as the language does it. -/
namespace Go.Proofs.YtljlcelbhlkmcabGreatDoor.Ver
open Go.RowKit Go.Proofs.YtljlcelbhlkmcabGreatDoor.Mem Go.Proofs.YtljlcelbhlkmcabGreatDoor.Laws Go.Proofs.YtljlcelbhlkmcabGreatDoor.Bytes Go.Proofs.YtljlcelbhlkmcabGreatDoor.Sha
set_option linter.unusedVariables false
set_option linter.unusedSimpArgs false

theorem fieldsV : Tryz.prog.underlying 25 = some (.struct (Tryz.prog.fieldsOf 25)) := by kernel_rfl
theorem heldV : Tryz.prog.stoodInHeld 25 = false := by kernel_rfl
theorem guardV : Tryz.prog.eqGuardType Tryz.prog.depth 25 = false := by kernel_rfl
theorem fieldsL : (Tryz.prog.fieldsOf 25).toList.map (fun f => (f.type, f.offset)) = [(3, 0), (3, 1), (3, 2), (9, 3)] := by kernel_rfl
/-- the same version -/
def sameV (a1 b1 c1 : Int) (p1 : ByteArray) (a2 b2 c2 : Int) (p2 : ByteArray) : Bool := (a1 == a2) && (b1 == b2) && (c1 == c2) && (p1.toList == p2.toList)

theorem eqV (w : World) (a1 b1 c1 : Int) (p1 : ByteArray) (a2 b2 c2 : Int) (p2 : ByteArray) :
    (Op.equalIn 10000 25 (.agg #[.int .i64 a1, .int .i64 b1, .int .i64 c1, .string p1]) (.agg #[.int .i64 a2, .int .i64 b2, .int .i64 c2, .string p2])).run Tryz.prog w = .ok (sameV a1 b1 c1 p1 a2 b2 c2 p2) w := by
  rw [run_equalIn_struct w 9999 _ _ _ fieldsV heldV]
  simp [Program.fieldsOf, Tryz.underlying25, Op.eqFields, go_sem, run_underlying Tryz.underlying3, run_underlying Tryz.underlying9, Tryz.underlying3, Tryz.underlying9, part]
  unfold sameV
  repeat' split
  all_goals simp_all

theorem neqV (w : World) (a1 b1 c1 : Int) (p1 : ByteArray) (a2 b2 c2 : Int) (p2 : ByteArray) :
    (binOp .neq 25 (.agg #[.int .i64 a1, .int .i64 b1, .int .i64 c1, .string p1]) (.agg #[.int .i64 a2, .int .i64 b2, .int .i64 c2, .string p2])).run Tryz.prog w = .ok (.bool (!sameV a1 b1 c1 p1 a2 b2 c2 p2)) w := by
  rw [run_neq_struct, eqV]
  rfl
theorem eqlV (w : World) (a1 b1 c1 : Int) (p1 : ByteArray) (a2 b2 c2 : Int) (p2 : ByteArray) :
    (binOp .eql 25 (.agg #[.int .i64 a1, .int .i64 b1, .int .i64 c1, .string p1]) (.agg #[.int .i64 a2, .int .i64 b2, .int .i64 c2, .string p2])).run Tryz.prog w = .ok (.bool (sameV a1 b1 c1 p1 a2 b2 c2 p2)) w := by
  rw [run_eql_struct, eqV]
  rfl
theorem grdV (w : World) (op : BinOp) (x y : Operand) (xs ys : Array Value) : (eqGuard op 25 x y (.agg xs) (.agg ys)).run Tryz.prog w = .ok () w := run_eqGuard_agg w op 25 x y xs ys guardV
theorem sameV_iff (a1 b1 c1 : Int) (p1 : ByteArray) (a2 b2 c2 : Int) (p2 : ByteArray) : sameV a1 b1 c1 p1 a2 b2 c2 p2 = true ↔ a1 = a2 ∧ b1 = b2 ∧ c1 = c2 ∧ p1 = p2 := by
  unfold sameV
  simp only [Bool.and_eq_true, beq_iff_eq, ByteArray.toList_eq]
  constructor
  · rintro ⟨⟨⟨h1, h2⟩, h3⟩, h4⟩
    exact ⟨h1, h2, h3, by apply ByteArray.ext; apply Array.ext'; exact h4⟩
  · rintro ⟨h1, h2, h3, rfl⟩
    exact ⟨⟨⟨h1, h2⟩, h3⟩, rfl⟩

end Go.Proofs.YtljlcelbhlkmcabGreatDoor.Ver

/- Chapter 5, the laws' helpers: lists of needs and entries held against each other, as the language does it. -/
namespace Go.Proofs.YtljlcelbhlkmcabGreatDoor.Ent
open Go.RowKit Go.Proofs.YtljlcelbhlkmcabGreatDoor.Mem Go.Proofs.YtljlcelbhlkmcabGreatDoor.Laws Go.Proofs.YtljlcelbhlkmcabGreatDoor.Bytes Go.Proofs.YtljlcelbhlkmcabGreatDoor.Sha Go.Proofs.YtljlcelbhlkmcabGreatDoor.Ver Go.Proofs.YtljlcelbhlkmcabGreatDoor.Mod
set_option linter.unusedVariables false
set_option linter.unusedSimpArgs false

theorem fieldsN : Tryz.prog.underlying 35 = some (.struct (Tryz.prog.fieldsOf 35)) := by kernel_rfl
theorem heldN : Tryz.prog.stoodInHeld 35 = false := by kernel_rfl
theorem guardN : Tryz.prog.eqGuardType Tryz.prog.depth 35 = false := by kernel_rfl
theorem eqVs (w : World) (a1 b1 c1 : Int) (p1 : ByteArray) :
    (Op.equalIn 9999 25 (.agg #[.int .i64 a1, .int .i64 b1, .int .i64 c1, .string p1]) (.agg #[.int .i64 a1, .int .i64 b1, .int .i64 c1, .string p1])).run Tryz.prog w = .ok true w := by
  rw [run_equalIn_struct w 9998 _ _ _ fieldsV heldV]
  simp [Program.fieldsOf, Tryz.underlying25, Op.eqFields, go_sem, run_underlying Tryz.underlying3, run_underlying Tryz.underlying9, Tryz.underlying3, Tryz.underlying9, part]
theorem eqNs (w : World) (s : ByteArray) (a1 b1 c1 : Int) (p1 : ByteArray) :
    (Op.equalIn 10000 35 (.agg #[.string s, .int .i64 a1, .int .i64 b1, .int .i64 c1, .string p1]) (.agg #[.string s, .int .i64 a1, .int .i64 b1, .int .i64 c1, .string p1])).run Tryz.prog w = .ok true w := by
  rw [run_equalIn_struct w 9999 _ _ _ fieldsN heldN]
  simp [Program.fieldsOf, Tryz.underlying35, Op.eqFields, go_sem, run_underlying Tryz.underlying9, Tryz.underlying9, Tryz.underlying25, part, eqVs]
theorem neqNs (w : World) (s : ByteArray) (a1 b1 c1 : Int) (p1 : ByteArray) :
    (binOp .neq 35 (.agg #[.string s, .int .i64 a1, .int .i64 b1, .int .i64 c1, .string p1]) (.agg #[.string s, .int .i64 a1, .int .i64 b1, .int .i64 c1, .string p1])).run Tryz.prog w = .ok (.bool false) w := by
  rw [run_neq_struct, eqNs]
  rfl
theorem grdN (w : World) (op : BinOp) (x y : Operand) (xs ys : Array Value) : (eqGuard op 35 x y (.agg xs) (.agg ys)).run Tryz.prog w = .ok () w := run_eqGuard_agg w op 35 x y xs ys guardN

set_option maxRecDepth 1000000 in
set_option maxHeartbeats 4000000 in
theorem same_needs (w : World) (v1 v2 : Value) (l : List Nd) (h1 : Sd w v1 l) (h2 : Sd w v2 l) (hx : l.length ≤ 1000000000000) :
    Calls Tryz.prog 34 #[v1, v2] w fun e w' => e = .returned (.bool true) ∧ Below w.heap.size w w' := by
  have HS1 : Hid (Sd w v1 l) := h1
  have HS2 : Hid (Sd w v2 l) := h2
  obtain ⟨_, ao, cap, rfl, hcap, _, _⟩ := h1
  obtain ⟨_, ao2, cap2, rfl, hcap2, _, _⟩ := h2
  have n1 : ((l.length : Int) != (l.length : Int)) = false := by simp
  go_enter Tryz.func34, Tryz.ntmps34
  go_wp2
  go_loopw [5] (fun i wr => ∃ k : Nat, k ≤ l.length ∧ i = .int .i64 (k : Int) ∧ Below w.heap.size w wr) (fun i _ => l.length - (intOf i).toNat)
  case atStart => exact ⟨0, Nat.zero_le _, rfl, Below.refl _ _⟩
  case round =>
    obtain ⟨k, hk, rfl, hB⟩ := hrel
    by_cases hlt : k < l.length
    · obtain ⟨n, hn⟩ : ∃ n, l[k]? = some n := ⟨l[k], by simp [hlt]⟩
      obtain ⟨b, off, cap', he, _, c0, c1, c2, c3, c4⟩ := Sd.at (HS1.out.later hB) hn
      simp only [Value.slice.injEq] at he
      obtain ⟨rfl, _, rfl⟩ := he
      obtain ⟨b2, off2, cap2', he2, _, e0, e1, e2, e3, e4⟩ := Sd.at (HS2.out.later hB) hn
      simp only [Value.slice.injEq] at he2
      obtain ⟨rfl, _, rfl⟩ := he2
      have hgd := grdN
      have hqn := fun W => neqNs W n.path n.a n.b n.c n.pre
      clear hn n1
      go_wp2_with fail
      refine wp_region_held_drew (S := fun w' => w'.cell? ⟨b, off + k * 5, none⟩ = some (.string n.path) ∧ w'.cell? ⟨b, off + k * 5 + 1, none⟩ = some (.int .i64 n.a) ∧ w'.cell? ⟨b, off + k * 5 + 2, none⟩ = some (.int .i64 n.b) ∧ w'.cell? ⟨b, off + k * 5 + 3, none⟩ = some (.int .i64 n.c) ∧ w'.cell? ⟨b, off + k * 5 + 4, none⟩ = some (.string n.pre) ∧ w'.cell? ⟨b2, off2 + k * 5, none⟩ = some (.string n.path) ∧ w'.cell? ⟨b2, off2 + k * 5 + 1, none⟩ = some (.int .i64 n.a) ∧ w'.cell? ⟨b2, off2 + k * 5 + 2, none⟩ = some (.int .i64 n.b) ∧ w'.cell? ⟨b2, off2 + k * 5 + 3, none⟩ = some (.int .i64 n.c) ∧ w'.cell? ⟨b2, off2 + k * 5 + 4, none⟩ = some (.string n.pre)) (by kernel_rfl) ⟨c0, c1, c2, c3, c4, e0, e1, e2, e3, e4⟩ (fun hHeld => ?_)
      (refine wpAnyH_take (i := 0) (v := ?v0x1) rfl (by kernel_rfl) (by kernel_rfl) (by kernel_rfl) (fun _ _ _ h => h) (Or.inl ⟨by rfl, ?hy0x1⟩) (by assumption) ?rest0x1; case hy0x1 => (intro w hSw; (try dsimp only at hSw); go_split_ands; go_simp; (try with_reducible rfl)))
      try simp only [Act.put, List.setIfInBounds_toArray, List.set_cons_zero, List.set_cons_succ, List.getElem_toArray, List.getElem_cons_zero, List.getElem_cons_succ]
      (refine wpAnyH_take (i := 1) (v := ?v1x2) rfl (by kernel_rfl) (by kernel_rfl) (by kernel_rfl) (fun _ _ _ h => h) (Or.inl ⟨by rfl, ?hy1x2⟩) (by assumption) ?rest1x2; case hy1x2 => (intro w hSw; (try dsimp only at hSw); go_split_ands; go_simp; (try with_reducible rfl)))
      try simp only [Act.put, List.setIfInBounds_toArray, List.set_cons_zero, List.set_cons_succ, List.getElem_toArray, List.getElem_cons_zero, List.getElem_cons_succ]
      (refine wpAnyH_take (i := 2) (v := ?v2x3) rfl (by kernel_rfl) (by kernel_rfl) (by kernel_rfl) (fun _ _ _ h => h) (Or.inl ⟨by rfl, ?hy2x3⟩) (by assumption) ?rest2x3; case hy2x3 => (intro w hSw; (try dsimp only at hSw); go_split_ands; go_simp; (try with_reducible rfl)))
      try simp only [Act.put, List.setIfInBounds_toArray, List.set_cons_zero, List.set_cons_succ, List.getElem_toArray, List.getElem_cons_zero, List.getElem_cons_succ]
      (refine wpAnyH_take (i := 3) (v := ?v3x4) rfl (by kernel_rfl) (by kernel_rfl) (by kernel_rfl) (fun _ _ _ h => h) (Or.inl ⟨by rfl, ?hy3x4⟩) (by assumption) ?rest3x4; case hy3x4 => (intro w hSw; (try dsimp only at hSw); go_split_ands; go_simp; (try with_reducible rfl)))
      try simp only [Act.put, List.setIfInBounds_toArray, List.set_cons_zero, List.set_cons_succ, List.getElem_toArray, List.getElem_cons_zero, List.getElem_cons_succ]
      (refine wpAnyH_take (i := 4) (v := ?v4x5) rfl (by kernel_rfl) (by kernel_rfl) (by kernel_rfl) (fun _ _ _ h => h) (Or.inl ⟨by rfl, ?hy4x5⟩) (by assumption) ?rest4x5; case hy4x5 => (intro w hSw; (try dsimp only at hSw); go_split_ands; go_simp; (try with_reducible rfl)))
      try simp only [Act.put, List.setIfInBounds_toArray, List.set_cons_zero, List.set_cons_succ, List.getElem_toArray, List.getElem_cons_zero, List.getElem_cons_succ]
      (refine wpAnyH_take (i := 5) (v := ?v5x6) rfl (by kernel_rfl) (by kernel_rfl) (by kernel_rfl) (fun _ _ _ h => h) (Or.inl ⟨by rfl, ?hy5x6⟩) (by assumption) ?rest5x6; case hy5x6 => (intro w hSw; (try dsimp only at hSw); go_split_ands; go_simp; (try with_reducible rfl)))
      try simp only [Act.put, List.setIfInBounds_toArray, List.set_cons_zero, List.set_cons_succ, List.getElem_toArray, List.getElem_cons_zero, List.getElem_cons_succ]
      (refine wpAnyH_take (i := 6) (v := ?v6x7) rfl (by kernel_rfl) (by kernel_rfl) (by kernel_rfl) (fun _ _ _ h => h) (Or.inl ⟨by rfl, ?hy6x7⟩) (by assumption) ?rest6x7; case hy6x7 => (intro w hSw; (try dsimp only at hSw); go_split_ands; go_simp; (try with_reducible rfl)))
      try simp only [Act.put, List.setIfInBounds_toArray, List.set_cons_zero, List.set_cons_succ, List.getElem_toArray, List.getElem_cons_zero, List.getElem_cons_succ]
      (refine wpAnyH_take (i := 7) (v := ?v7x8) rfl (by kernel_rfl) (by kernel_rfl) (by kernel_rfl) (fun _ _ _ h => h) (Or.inl ⟨by rfl, ?hy7x8⟩) (by assumption) ?rest7x8; case hy7x8 => (intro w hSw; (try dsimp only at hSw); go_split_ands; go_simp; (try with_reducible rfl)))
      try simp only [Act.put, List.setIfInBounds_toArray, List.set_cons_zero, List.set_cons_succ, List.getElem_toArray, List.getElem_cons_zero, List.getElem_cons_succ]
      (refine wpAnyH_take (i := 8) (v := ?v8x9) rfl (by kernel_rfl) (by kernel_rfl) (by kernel_rfl) (fun _ _ _ h => h) (Or.inl ⟨by rfl, ?hy8x9⟩) (by assumption) ?rest8x9; case hy8x9 => (intro w hSw; (try dsimp only at hSw); go_split_ands; go_simp; (try with_reducible rfl)))
      try simp only [Act.put, List.setIfInBounds_toArray, List.set_cons_zero, List.set_cons_succ, List.getElem_toArray, List.getElem_cons_zero, List.getElem_cons_succ]
      refine wpAnyH_done (by kernel_rfl) ?_ _
      clear hHeld c0 c1 c2 c3 c4 e0 e1 e2 e3 e4
      go_wp2
      go_roundw
      case rel => exact ⟨k + 1, by omega, by go_num, Below.drew hB⟩
      case measure => simp [intOf]; omega
    · go_wp2
      go_ret
      exact ⟨rfl, hB⟩

set_option maxRecDepth 1000000 in
set_option maxHeartbeats 4000000 in
theorem same_entry (w : World) (n : Nd) (v1 v2 : Value) (l : List Nd) (h1 : Sd w v1 l) (h2 : Sd w v2 l) (hx : l.length ≤ 1000000000000) :
    Calls Tryz.prog 13 #[.agg #[.string n.path, .int .i64 n.a, .int .i64 n.b, .int .i64 n.c, .string n.pre, v1], .agg #[.string n.path, .int .i64 n.a, .int .i64 n.b, .int .i64 n.c, .string n.pre, v2]] w fun e w' => e = .returned (.bool true) ∧ Below w.heap.size w w' := by
  have HB : Hid (Below w.heap.size w ((w.alloc (.cells #[.string n.path, .int .i64 n.a, .int .i64 n.b, .int .i64 n.c, .string n.pre, v1] 28)).alloc (.cells #[.string n.path, .int .i64 n.a, .int .i64 n.b, .int .i64 n.c, .string n.pre, v2] 28))) :=
    ((Below.refl _ _).alloc (Nat.le_refl _) _).alloc (by simp) _
  have q := same_needs _ v1 v2 l (h1.later HB.out) (h2.later HB.out) hx
  have hgd := Ver.grdV
  have hqe := fun W => Ver.eqlV W n.a n.b n.c n.pre n.a n.b n.c n.pre
  rw [(Ver.sameV_iff n.a n.b n.c n.pre n.a n.b n.c n.pre).2 ⟨rfl, rfl, rfl, rfl⟩] at hqe
  clear h1 h2
  have n1 : (n.path.toList == n.path.toList) = true := by simp
  go_enter Tryz.func13, Tryz.ntmps13
  go_wp2_with fail
  refine q.mono ?_
  rintro e W2 ⟨rfl, b2⟩
  have hB2 : Below w.heap.size w W2 := HB.out.trans (b2.mono HB.out.size)
  clear q b2 HB
  go_wp2
  go_ret
  exact ⟨rfl, hB2⟩

end Go.Proofs.YtljlcelbhlkmcabGreatDoor.Ent
