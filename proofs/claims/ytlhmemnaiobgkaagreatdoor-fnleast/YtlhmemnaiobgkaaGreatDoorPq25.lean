/- Texts in one: Me2. -/
import Derived.Test.YtlhmemnaiobgkaaGreatDoorPq22
import Derived.Test.YtlhmemnaiobgkaaGreatDoorPq8
import Derived.Test.YtlhmemnaiobgkaaGreatDoorPq24
import Derived.Maps.AppendAt
import Derived.Deep.DeepCutAuto
/- Chapter 16, the landed code: needs are met. -/
namespace Go.Proofs.YtlhmemnaiobgkaaGreatDoor.Se
open Go.RowKit Go.Proofs.YtlhmemnaiobgkaaGreatDoor.Mem Go.Proofs.YtlhmemnaiobgkaaGreatDoor.Laws Go.Proofs.YtlhmemnaiobgkaaGreatDoor.Ver Go.Proofs.YtlhmemnaiobgkaaGreatDoor.Ent Go.Proofs.YtlhmemnaiobgkaaGreatDoor.Fe
set_option linter.unusedVariables false
set_option linter.unusedSimpArgs false

/-- an append onto an owned row, and where it lies then -/
theorem step_appw {P : Program} (n : Nat) (hn0 : 0 < n) {w : World} {ops : Array Oper} {o : Oper} {a : Act} {K : Act → World → Prop} {Q : Exit → Act → World → Prop} {E : Prop}
    (hg : o.guard = none) (s x : Operand) (t : TypeId) (hop : o.op = Op.call { callee := Callee.builtin Builtin.append, args := #[s, x], argTypes := #[t, t] })
    (e : TypeId) (i : TypeInfo) (z : Value) (bytes : Nat) (ht : P.underlying t = some (.slice e)) (hi : P.info? e = some i) (hz : i.zero = some z) (hsize : i.size = n) (hby : i.bytes = bytes) (hzs : z.cells.size = n)
    (lo : Nat) (v : Value) (m : Nat) (cs : List Value) (hs : a.eval s = v) (hown : On n w lo w.heap.size e v m cs) (b k cap : Nat) (hx : a.eval x = .slice (some ⟨b, 0, none⟩) k cap) (news : List Value) (hsl : Sn n w (.slice (some ⟨b, 0, none⟩) k cap) k news) (hk : 0 < k)
    (h1 : ∀ u ∈ news, u.oneCell' = true) (h63 : m + k ≤ maxLen) (hb : (m + k) * bytes ≤ 140737488355328) (hlo : lo ≤ w.heap.size)
    (hK : ∀ v' w', On n w' lo w'.heap.size e v' (m + k) (cs ++ news) → w.grownBy w' v.ownBlock → (v'.ownBlock = v.ownBlock ∨ v'.ownBlock = some w.heap.size) → K (a.put o.dst v') w') : if Region.wanted o (yielded ops a.tmps) = true then Oper.wp P o a w K Q else E := by
  have hw : Region.wanted o (yielded ops a.tmps) = true := by simp [Region.wanted, hg]
  rw [if_pos hw]
  obtain ⟨hl, ao, cap9, he, hc, hn, hr⟩ := hsl
  simp only [Value.slice.injEq] at he
  obtain ⟨rfl, _, rfl⟩ := he
  obtain ⟨b9, off9, he9, hcell⟩ := hr hk
  simp only [Option.some.injEq, Addr.mk.injEq] at he9
  obtain ⟨rfl, rfl, _⟩ := he9
  obtain ⟨v', w', hrun, h2, h3, h4, h5⟩ := run_append_own_at (P := P) w lo t o.type e i z n bytes ht hi hz hsize hby hzs hn0 v m cs hown.1 ⟨b, 0, none⟩ k cap news hl (by
    intro j u hj
    have hlt : j < news.length := (List.getElem?_eq_some_iff.1 hj).1
    rw [Addr.add_lit, hcell j hlt, hj]) h1 h63 hb hlo
  unfold Oper.wp execOp
  simp only [hop, resolve, invoke, builtin, Sem.run_bind, Sem.run_pure, Result.andThen_ok, List.map_toArray, List.map_cons, List.map_nil, hs, hx, hrun]
  exact hK v' w' (On.of h2) h3 h5

/-- what impl.Reach keeps: a row (R), which is owned, and a map of what it has (Q) -/
structure Sr (w : World) (g m lo : Nat) (v : Value) (R Q : List Nd) : Prop where
  row : w.heap[g]? = some (.cells #[v, .map (some m)] 69 (0, 0))
  mp : Mp w m Q
  own : Od w lo w.heap.size v R
  low : lo ≤ w.heap.size
theorem Sr.ne {w : World} {g m lo : Nat} {v : Value} {R Q : List Nd} (h : Sr w g m lo v R Q) : g ≠ m := fun e => by
  have h1 := h.row
  have h2 : w.heap[m]? = some (.map (entL Q 0).toArray Q.length) := h.mp
  rw [e, h2] at h1
  simp at h1
theorem Sr.far {w : World} {g m lo : Nat} {v : Value} {R Q : List Nd} (h : Sr w g m lo v R Q) : v.ownBlock ≠ some g ∧ v.ownBlock ≠ some m := by
  refine ⟨On.neRow h.own h.row (by decide), fun e => ?_⟩
  rcases h.own.1.2 with ⟨h9, _⟩ | ⟨g9, cap, cur, h9, _, hg9, _⟩
  · rw [h9] at e; cases e
  · rw [h9] at e
    have e2 : g9 = m := by simpa [Value.ownBlock] using e
    have h2 : w.heap[m]? = some (.map (entL Q 0).toArray Q.length) := h.mp
    rw [e2, h2] at hg9
    simp at hg9
theorem Sr.later {w w' : World} {g m lo : Nat} {v : Value} {R Q : List Nd} (h : Sr w g m lo v R Q) (b : Below w.heap.size w w') : Sr w' g m lo v R Q :=
  ⟨rowKeep h.row b, h.mp.later b, Od.up h.own b, Nat.le_trans h.low b.size⟩
/-- what a call that is handed the row may turn -/
def Xr (g m : Nat) (v : Value) (k : Nat) : Prop := k = g ∨ k = m ∨ v.ownBlock = some k
theorem fold_len : ∀ (ns R : List Nd), (ns.foldl put16 R).length ≤ R.length + ns.length := by
  intro ns
  induction ns with
  | nil => intro R; exact Nat.le_refl _
  | cons n r ih =>
    intro R
    have h1 := ih (put16 R n)
    have h2 : (put16 R n).length ≤ R.length + 1 := by unfold put16; split <;> simp
    rw [List.foldl_cons, List.length_cons]
    omega
theorem fold_take {ns : List Nd} {k : Nat} {q : Nd} (R : List Nd) (h : ns[k]? = some q) : (ns.take (k + 1)).foldl put16 R = put16 ((ns.take k).foldl put16 R) q := by
  rw [take_snoc15 h, List.foldl_append]
  rfl

set_option maxRecDepth 1000000 in
set_option maxHeartbeats 8000000 in
theorem meet_impl (w : World) (g m lo : Nat) (v v2 : Value) (R ns : List Nd) (h : Sr w g m lo v R R) (hS : ∀ w', Kx (Xr g m v) w w' → Sd w' v2 ns) (hR : R.length + ns.length ≤ 1000000000) (hz : ∀ x ∈ ns, x.path.size ≤ 1000000000000 ∧ x.pre.size ≤ 1000000000000) :
    Calls Tryz.prog 42 #[.pointer (some ⟨g, 0, none⟩), v2] w fun e w' => e = .returned (.tuple #[]) ∧ ∃ v', Sr w' g m lo v' (ns.foldl put16 R) (ns.foldl put16 R) ∧ Kx (Xr g m v) w w' ∧ (v'.ownBlock = v.ownBlock ∨ ∃ j, v'.ownBlock = some j ∧ w.heap.size ≤ j) := by
  obtain ⟨i0, hi, hz0, hz1, hz2⟩ := info_parts infoN
  have HS : Hid (∀ w', Kx (Xr g m v) w w' → Sd w' v2 ns) := hS
  have hgw : g < w.heap.size := (Array.getElem?_eq_some_iff.1 h.row).1
  have hmw : m < w.heap.size := (Array.getElem?_eq_some_iff.1 h.mp).1
  have hlo := h.low
  have H0 : Hid (Sr w g m lo v R R) := h
  have K0 : Hid (Kx (Xr g m v) w w) := Kx.refl _ _
  obtain ⟨_, ao2, cap2, rfl, hcap2, _, _⟩ := hS w (Kx.refl _ _)
  clear hS h
  go_enter Tryz.func42, Tryz.ntmps42
  go_wp2_with fail
  go_loopw [10] (fun iv wr => ∃ (k : Nat) (vc : Value), k ≤ ns.length ∧ iv = .int .i64 (k : Int) ∧ Hid (Sr wr g m lo vc ((ns.take k).foldl put16 R) ((ns.take k).foldl put16 R)) ∧ Hid (Kx (Xr g m v) w wr) ∧ Hid (vc.ownBlock = v.ownBlock ∨ ∃ j, vc.ownBlock = some j ∧ w.heap.size ≤ j)) (fun iv _ => ns.length - (intOf iv).toNat)
  case atStart => exact ⟨0, v, Nat.zero_le _, rfl, H0, K0, .inl rfl⟩
  case round =>
    obtain ⟨k, vc, hk, rfl, H1, K1, V1⟩ := hrel
    obtain ⟨W1, hW1⟩ : ∃ X, X = wr := ⟨_, rfl⟩
    subst hW1
    have zw := K1.out.size
    by_cases hlt : k < ns.length
    · have hlt2 : (k : Int) < (ns.length : Int) := by omega
      obtain ⟨q, hq⟩ : ∃ q, ns[k]? = some q := ⟨ns[k], by simp [hlt]⟩
      have HQ := Ke.h hq
      have hqz := hz q (List.mem_of_getElem? hq)
      obtain ⟨b, off, cap9, he, _, p0, p1, p2, p3, p4⟩ := Sd.at (HS.out W1 K1.out) hq
      simp only [Value.slice.injEq] at he
      obtain ⟨rfl, _, rfl⟩ := he
      clear hq
      obtain ⟨Rk, hRk⟩ : ∃ Rk, (ns.take k).foldl put16 R = Rk := ⟨_, rfl⟩
      have HRK : Hid ((ns.take (k + 1)).foldl put16 R = put16 Rk q) := by show _ = _; rw [fold_take R HQ.out, hRk]
      have hRl : Rk.length ≤ 1000000000 := by have := fold_len (ns.take k) R; rw [hRk] at this; simp at this; omega
      rw [hRk] at H1
      clear hRk
      have HV : Hid (∀ j, vc.ownBlock = some j → j < W1.heap.size) := fun j hj => (On.lt H1.out.own hj).2.2
      obtain ⟨W2, HW2, b2, y2, hS2, r2⟩ := Ke.l1 W1 #[.string q.path, .int .i64 q.a, .int .i64 q.b, .int .i64 q.c, .string q.pre] 38
      have H2 := Ke.h (H1.out.later b2)
      have K2 := Ke.h (K1.out.later b2)
      obtain ⟨hs, hhs⟩ : ∃ hs, has16 Rk q = hs := ⟨_, rfl⟩
      have hL : ∀ w', Mp w' m Rk → (Instr.lookup 67 (.map (some m)) (.agg #[.string q.path, .int .i64 q.a, .int .i64 q.b, .int .i64 q.c, .string q.pre]) true).run Tryz.prog w' = .ok (.tuple #[.agg #[], .bool hs]) w' := fun w' hm => by rw [← hhs]; exact lookM w' m Rk q hm
      have HH := Ke.h hhs
      clear hhs
      go_upto_region 3 with fail
      rw [HW2.out]
      clear p0 p1 p2 p3 p4
      have c2 := Ke.c r2
      have cg2 := Ke.c (Ke.h H2.out.row)
      refine wp_region_held_drew (S := fun w' => (∀ j, w'.cell? ⟨g, j, none⟩ = #[vc, .map (some m)][j]?) ∧ Mp w' m Rk ∧ (∀ j, w'.cell? ⟨W1.heap.size, j, none⟩ = #[.string q.path, .int .i64 q.a, .int .i64 q.b, .int .i64 q.c, .string q.pre][j]?)) (by kernel_rfl) ⟨cg2, H2.out.mp, c2⟩ (fun hHeld => ?_)
      obtain ⟨W3, HW3, b3⟩ : ∃ X, Hid (W2.drew = X) ∧ Below W2.heap.size W2 X := ⟨_, rfl, Below.drew (Below.refl _ _)⟩
      have HHW3 := HW3.out
      rw [HHW3] at hHeld ⊢
      clear HHW3 c2 cg2
      have r3 := Ke.r r2 b3
      have H3 := Ke.h (H2.out.later b3)
      have K3 := Ke.h (K2.out.later b3)
      have z3 := b3.size
      clear r2 H2 K2
      refine Ke.y 0 rfl (fun _ _ _ h => h) ?_
      try simp only [Act.put, pu1, pu2, pu3, pu4, pu5, pu6]
      refine Ke.y 1 rfl (fun _ _ _ h => h) ?_
      try simp only [Act.put, pu1, pu2, pu3, pu4, pu5, pu6]
      refine Ke.y 2 rfl (fun _ _ _ h => h) ?_
      try simp only [Act.put, pu1, pu2, pu3, pu4, pu5, pu6]
      refine Ke.y 3 rfl (fun _ _ _ h => h) ?_
      try simp only [Act.put, pu1, pu2, pu3, pu4, pu5, pu6]
      refine Ke.y 4 rfl (fun _ _ _ h => h) ?_
      try simp only [Act.put, pu1, pu2, pu3, pu4, pu5, pu6]
      refine Ke.y 5 (v := .tuple #[.agg #[], .bool hs]) rfl (fun _ _ _ h => h) ?_ (hy := fun w' hSw => by have hl := hL w' hSw.2.1; go_simp)
      try simp only [Act.put, pu1, pu2, pu3, pu4, pu5, pu6]
      refine Ke.y 6 rfl (fun _ _ _ h => h) ?_
      try simp only [Act.put, pu1, pu2, pu3, pu4, pu5, pu6]
      refine Ke.y 7 rfl (fun _ _ _ h => h) ?_
      try simp only [Act.put, pu1, pu2, pu3, pu4, pu5, pu6]
      refine Ke.y 8 rfl (fun _ _ _ h => h) ?_
      try simp only [Act.put, pu1, pu2, pu3, pu4, pu5, pu6]
      refine Ke.z 9 rfl (fun K hK => ?_)
      go_simp
      obtain ⟨W4, HW4, b4, y4, hS4, r9⟩ := Ke.l1 W3 #[] 101
      have HHW4 := HW4.out
      rw [HHW4]
      clear HHW4 r9
      have r4 := Ke.r r3 b4
      have H4 := Ke.h (H3.out.later b4)
      have K4 := Ke.h (K3.out.later b4)
      have z4 := b4.size
      clear r3 H3 K3
      refine hK.out _ _ ⟨Ke.k hHeld.1 b4, hHeld.2.1.later b4, Ke.k hHeld.2.2 b4⟩ (fun hHeld => ?_)
      clear hK K
      try simp only [Act.put, pu1, pu2, pu3, pu4, pu5, pu6]
      refine Ke.z 10 rfl (fun K hK => ?_)
      go_simp
      refine hK.out _ _ hHeld (fun hHeld => ?_)
      clear hK K
      try simp only [Act.put, pu1, pu2, pu3, pu4, pu5, pu6]
      refine Ke.y 11 rfl (fun _ _ _ h => h) ?_
      try simp only [Act.put, pu1, pu2, pu3, pu4, pu5, pu6]
      refine wpAnyH_done (by kernel_rfl) ?_ _
      clear hHeld
      cases hs
      · have hn : has16 Rk q = false := HH.out
        have HF : Hid ((ns.take (k + 1)).foldl put16 R = Rk ++ [q]) := by show _ = _; rw [HRK.out]; unfold put16; rw [if_neg (by rw [hn]; decide)]
        go_upto_region 5 with fail
        have c4 := Ke.c r4
        have cg4 := Ke.c (Ke.h H4.out.row)
        refine wp_region_held_drew (S := fun w' => (∀ j, w'.cell? ⟨g, j, none⟩ = #[vc, .map (some m)][j]?) ∧ (∀ j, w'.cell? ⟨W1.heap.size, j, none⟩ = #[.string q.path, .int .i64 q.a, .int .i64 q.b, .int .i64 q.c, .string q.pre][j]?)) (by kernel_rfl) ⟨cg4, c4⟩ (fun hHeld => ?_)
        obtain ⟨W5, HW5, b5⟩ : ∃ X, Hid (W4.drew = X) ∧ Below W4.heap.size W4 X := ⟨_, rfl, Below.drew (Below.refl _ _)⟩
        have HHW5 := HW5.out
        rw [HHW5] at hHeld ⊢
        clear HHW5 c4 cg4
        have r5 := Ke.r r4 b5
        have H5 := Ke.h (H4.out.later b5)
        have K5 := Ke.h (K4.out.later b5)
        have z5 := b5.size
        clear r4 H4 K4
        refine Ke.y 0 rfl (fun _ _ _ h => h) ?_
        try simp only [Act.put, pu1, pu2, pu3, pu4, pu5, pu6]
        refine Ke.y 1 rfl (fun _ _ _ h => h) ?_
        try simp only [Act.put, pu1, pu2, pu3, pu4, pu5, pu6]
        refine Ke.y 2 rfl (fun _ _ _ h => h) ?_
        try simp only [Act.put, pu1, pu2, pu3, pu4, pu5, pu6]
        refine Ke.y 3 rfl (fun _ _ _ h => h) ?_
        try simp only [Act.put, pu1, pu2, pu3, pu4, pu5, pu6]
        refine Ke.y 4 rfl (fun _ _ _ h => h) ?_
        try simp only [Act.put, pu1, pu2, pu3, pu4, pu5, pu6]
        refine Ke.y 5 rfl (fun _ _ _ h => h) ?_
        try simp only [Act.put, pu1, pu2, pu3, pu4, pu5, pu6]
        obtain ⟨W6, hU, hm6, g6, hs6⟩ := putM W5 m Rk q H5.out.mp hn
        have hU : (Instr.mapUpdate 67 (.map (some m)) (.agg #[.string q.path, .int .i64 q.a, .int .i64 q.b, .int .i64 q.c, .string q.pre]) (.agg #[])).run Tryz.prog W5 = .ok () W6 := hU
        have hgm := H5.out.ne
        have hbm : W1.heap.size ≠ m := by omega
        refine Ke.z 6 rfl (fun K hK => ?_)
        go_simp
        refine hK.out _ _ ⟨Ke.g hHeld.1 g6 (by intro h9; injection h9 with h9; omega), Ke.g hHeld.2 g6 (by intro h9; injection h9 with h9; omega)⟩ (fun hHeld => ?_)
        clear hK K
        try simp only [Act.put, pu1, pu2, pu3, pu4, pu5, pu6]
        have r6 := Ke.s r5 g6 (by omega)
        have H6 : Hid (Sr W6 g m lo vc Rk (Rk ++ [q])) := ⟨rowGro H5.out.row g6 (by intro h9; injection h9 with h9; omega), hm6, On.mono (On.keep1 H5.out.own (fun j hj => g6.block j (On.lt H5.out.own hj).2.2 (fun e9 => H5.out.far.2 (hj.trans e9)))) (Nat.le_refl _) g6.size, Nat.le_trans H5.out.low g6.size⟩
        have K6 : Hid (Kx (Xr g m v) w W6) := K5.out.gro g6 (fun r h9 => by injection h9 with h9; exact .inl (.inr (.inl h9.symm)))
        have z6 := g6.size
        clear hU hm6 g6 r5 H5 K5
        refine wpAnyH_done (by kernel_rfl) ?_ _
        clear hHeld
        go_upto_region 6 with fail
        have c6 := Ke.c r6
        refine wp_region_held_drew (S := fun w' => (∀ j, w'.cell? ⟨W1.heap.size, j, none⟩ = #[.string q.path, .int .i64 q.a, .int .i64 q.b, .int .i64 q.c, .string q.pre][j]?)) (by kernel_rfl) c6 (fun hHeld => ?_)
        obtain ⟨W7, HW7, b7⟩ : ∃ X, Hid (W6.drew = X) ∧ Below W6.heap.size W6 X := ⟨_, rfl, Below.drew (Below.refl _ _)⟩
        have HHW7 := HW7.out
        rw [HHW7] at hHeld ⊢
        clear HHW7 c6
        have r7 := Ke.r r6 b7
        have H7 := Ke.h (H6.out.later b7)
        have K7 := Ke.h (K6.out.later b7)
        have z7 := b7.size
        clear r6 H6 K6
        have cg7 := Ke.c (Ke.h H7.out.row)
        refine Ke.y 0 rfl (fun _ _ _ h => h) ?_
        try simp only [Act.put, pu1, pu2, pu3, pu4, pu5, pu6]
        refine Ke.y 1 rfl (fun _ _ _ h => h) ?_
        try simp only [Act.put, pu1, pu2, pu3, pu4, pu5, pu6]
        refine Ke.y 2 rfl (fun _ _ _ h => h) ?_
        try simp only [Act.put, pu1, pu2, pu3, pu4, pu5, pu6]
        refine Ke.y 3 rfl (fun _ _ _ h => h) ?_
        try simp only [Act.put, pu1, pu2, pu3, pu4, pu5, pu6]
        refine Ke.y 5 rfl (fun _ _ _ h => h) ?_
        try simp only [Act.put, pu1, pu2, pu3, pu4, pu5, pu6]
        refine wpAnyH_ready (rs := [4, 6]) (by kernel_rfl) (by simp) ?_
        refine AllReadyH.cons rfl (fun K hK => ?_) (AllReadyH.cons rfl (fun K hK => ?_) AllReadyH.nil)
        · -- the row is read first
          go_simp
          refine hK.out _ _ hHeld (fun hHeld => ?_)
          clear hK K
          try simp only [Act.put, pu1, pu2, pu3, pu4, pu5, pu6]
          refine Ke.z 6 rfl (fun K hK => ?_)
          go_simp
          refine (ownn_impl W7 q hqz.1 hqz.2).mono ?_
          rintro e W8 ⟨rfl, b8⟩
          refine hK.out _ _ (Ke.k (W := W7) hHeld b8) (fun hHeld => ?_)
          clear hK K
          try simp only [Act.put, pu1, pu2, pu3, pu4, pu5, pu6]
          have r8 := Ke.r r7 b8
          have H8 := Ke.h (H7.out.later b8)
          have K8 := Ke.h (K7.out.later b8)
          have z8 := b8.size
          clear r7 H7 K7
          have cg8 := Ke.c (Ke.h H8.out.row)
          clear cg7
          refine Ke.z 7 rfl (fun K hK => ?_)
          go_simp
          refine hK.out _ _ (Ke.k (W := W8) hHeld ((Below.refl _ _).alloc (Nat.le_refl _) _)) (fun hHeld => ?_)
          clear hK K
          try simp only [Act.put, pu1, pu2, pu3, pu4, pu5, pu6]
          obtain ⟨W9, HW9, b9, T9⟩ : ∃ X, Hid ((W8.alloc (.cells #[.string q.path, .int .i64 q.a, .int .i64 q.b, .int .i64 q.c, .string q.pre] 38)) = X) ∧ Below W8.heap.size W8 X ∧ Hid (Sn 5 X (.slice (some ⟨W8.heap.size, 0, none⟩) 1 1) 1 (nc q).toList) := ⟨_, rfl, ((Below.refl _ _).alloc (Nat.le_refl _) _), Sn.one9 W8 q⟩
          have HHW9 := HW9.out
          rw [HHW9] at hHeld ⊢
          clear HHW9
          have r9 := Ke.r r8 b9
          have H9 := Ke.h (H8.out.later b9)
          have K9 := Ke.h (K8.out.later b9)
          have z9 := b9.size
          clear r8 H8 K8
          have cg9 := Ke.c (Ke.h H9.out.row)
          clear cg8
          have k1 : Rk.length + 1 ≤ maxLen := by unfold maxLen; omega
          have k2 : (Rk.length + 1) * 56 ≤ 140737488355328 := by omega
          refine Ke.z 8 rfl (fun K hK => ?_)
          refine step_appw 5 (by omega) rfl (.tmp 34) (.tmp 37) 25 (by rfl) 38 i0 (.agg #[.string ⟨#[]⟩, .int .i64 0, .int .i64 0, .int .i64 0, .string ⟨#[]⟩]) 56 Tryz.underlying25 hi hz0 hz1 hz2 rfl lo _ Rk.length (nds Rk) (by rfl) H9.out.own _ 1 1 (by rfl) (nc q).toList T9.out (by omega) (by intro u9 hu9; simp only [nc, List.mem_cons, List.not_mem_nil, or_false] at hu9; rcases hu9 with rfl | rfl | rfl | rfl | rfl <;> rfl) k1 k2 H9.out.low ?_
          intro v9 W10 o10 g10 hat
          refine hK.out _ _ (Ke.g hHeld g10 (fun h9 => by have := HV.out _ h9; omega)) (fun hHeld => ?_)
          clear hK K
          try simp only [Act.put, pu1, pu2, pu3, pu4, pu5, pu6]
          have o10 : Od W10 lo W10.heap.size v9 (Rk ++ [q]) := by unfold Od; rw [nds_snoc, List.length_append]; exact o10
          obtain ⟨a9, c9, rfl⟩ := Od.slice o10
          have r10 := rowGro H9.out.row g10 H9.out.far.1
          have m10 := H9.out.mp.gro g10 H9.out.far.2
          have K10 : Hid (Kx (Xr g m v) w W10) := K9.out.gro g10 (fun r h9 => by rcases V1.out with h8 | ⟨j, h8, h7⟩; exact .inl (.inr (.inr (h8.symm.trans h9))); rw [h8] at h9; injection h9 with h9; right; omega)
          have V2 : Hid ((Value.slice a9 (Rk ++ [q]).length c9).ownBlock = v.ownBlock ∨ ∃ j, (Value.slice a9 (Rk ++ [q]).length c9).ownBlock = some j ∧ w.heap.size ≤ j) := by rcases hat with h9 | h9; rcases V1.out with h8 | ⟨j, h8, h7⟩; exact .inl (h9.trans h8); exact .inr ⟨j, h9.trans h8, h7⟩; exact .inr ⟨_, h9, by omega⟩
          have z10 := g10.size
          have l10 := Nat.le_trans H9.out.low g10.size
          have ne10 := H9.out.ne
          refine Ke.y 9 rfl (fun _ _ _ h => h) ?_
          try simp only [Act.put, pu1, pu2, pu3, pu4, pu5, pu6]
          refine Ke.y 10 rfl (fun _ _ _ h => h) ?_
          try simp only [Act.put, pu1, pu2, pu3, pu4, pu5, pu6]
          refine Ke.z 11 rfl (fun K hK => ?_)
          rw [if_pos (by rfl)]
          refine wp_oneG 25 _ _ rfl g 0 (.slice a9 (Rk ++ [q]).length c9) rfl (by rfl) [vc, .map (some m)] 69 r10 (Nat.le_of_ble_eq_true rfl) (by kernel_rfl) rfl [.slice a9 (Rk ++ [q]).length c9, .map (some m)] rfl ?_
          intro W11 r11 g11
          refine hK.out _ _ (Ke.g hHeld g11 (by intro h9; injection h9 with h9; omega)) (fun hHeld => ?_)
          clear hK K
          try simp only [Act.put, pu1, pu2, pu3, pu4, pu5, pu6]
          have H11 : Hid (Sr W11 g m lo (.slice a9 (Rk ++ [q]).length c9) (Rk ++ [q]) (Rk ++ [q])) := ⟨r11, m10.gro g11 (by intro h9; injection h9 with h9; omega), On.mono (On.keep1 o10 (fun j hj => g11.block j (On.lt o10 hj).2.2 (fun e9 => On.neRow o10 r10 (by decide) (hj.trans e9)))) (Nat.le_refl _) g11.size, Nat.le_trans l10 g11.size⟩
          have K11 : Hid (Kx (Xr g m v) w W11) := K10.out.gro g11 (fun r h9 => by injection h9 with h9; exact .inl (.inl h9.symm))
          refine wpAnyH_done (by kernel_rfl) ?_ _
          clear hHeld
          have HE11 : Hid (Sr W11 g m lo (.slice a9 (Rk ++ [q]).length c9) ((ns.take (k + 1)).foldl put16 R) ((ns.take (k + 1)).foldl put16 R)) := by rw [HF.out]; exact H11
          go_wp2
          go_roundw
          case rel => exact ⟨k + 1, _, by omega, by go_num, HE11, K11, V2⟩
          case measure => simp [intOf]; omega
        · -- the copy is made first
          go_simp
          refine (ownn_impl W7 q hqz.1 hqz.2).mono ?_
          rintro e W8 ⟨rfl, b8⟩
          refine hK.out _ _ (Ke.k (W := W7) hHeld b8) (fun hHeld => ?_)
          clear hK K
          try simp only [Act.put, pu1, pu2, pu3, pu4, pu5, pu6]
          have r8 := Ke.r r7 b8
          have H8 := Ke.h (H7.out.later b8)
          have K8 := Ke.h (K7.out.later b8)
          have z8 := b8.size
          clear r7 H7 K7
          have cg8 := Ke.c (Ke.h H8.out.row)
          clear cg7
          refine wpAnyH_ready (rs := [4, 7]) (by kernel_rfl) (by simp) ?_
          refine AllReadyH.cons rfl (fun K hK => ?_) (AllReadyH.cons rfl (fun K hK => ?_) AllReadyH.nil)
          · -- then the row
            go_simp
            refine hK.out _ _ hHeld (fun hHeld => ?_)
            clear hK K
            try simp only [Act.put, pu1, pu2, pu3, pu4, pu5, pu6]
            refine Ke.z 7 rfl (fun K hK => ?_)
            go_simp
            refine hK.out _ _ (Ke.k (W := W8) hHeld ((Below.refl _ _).alloc (Nat.le_refl _) _)) (fun hHeld => ?_)
            clear hK K
            try simp only [Act.put, pu1, pu2, pu3, pu4, pu5, pu6]
            obtain ⟨W9, HW9, b9, T9⟩ : ∃ X, Hid ((W8.alloc (.cells #[.string q.path, .int .i64 q.a, .int .i64 q.b, .int .i64 q.c, .string q.pre] 38)) = X) ∧ Below W8.heap.size W8 X ∧ Hid (Sn 5 X (.slice (some ⟨W8.heap.size, 0, none⟩) 1 1) 1 (nc q).toList) := ⟨_, rfl, ((Below.refl _ _).alloc (Nat.le_refl _) _), Sn.one9 W8 q⟩
            have HHW9 := HW9.out
            rw [HHW9] at hHeld ⊢
            clear HHW9
            have r9 := Ke.r r8 b9
            have H9 := Ke.h (H8.out.later b9)
            have K9 := Ke.h (K8.out.later b9)
            have z9 := b9.size
            clear r8 H8 K8
            have cg9 := Ke.c (Ke.h H9.out.row)
            clear cg8
            have k1 : Rk.length + 1 ≤ maxLen := by unfold maxLen; omega
            have k2 : (Rk.length + 1) * 56 ≤ 140737488355328 := by omega
            refine Ke.z 8 rfl (fun K hK => ?_)
            refine step_appw 5 (by omega) rfl (.tmp 34) (.tmp 37) 25 (by rfl) 38 i0 (.agg #[.string ⟨#[]⟩, .int .i64 0, .int .i64 0, .int .i64 0, .string ⟨#[]⟩]) 56 Tryz.underlying25 hi hz0 hz1 hz2 rfl lo _ Rk.length (nds Rk) (by rfl) H9.out.own _ 1 1 (by rfl) (nc q).toList T9.out (by omega) (by intro u9 hu9; simp only [nc, List.mem_cons, List.not_mem_nil, or_false] at hu9; rcases hu9 with rfl | rfl | rfl | rfl | rfl <;> rfl) k1 k2 H9.out.low ?_
            intro v9 W10 o10 g10 hat
            refine hK.out _ _ (Ke.g hHeld g10 (fun h9 => by have := HV.out _ h9; omega)) (fun hHeld => ?_)
            clear hK K
            try simp only [Act.put, pu1, pu2, pu3, pu4, pu5, pu6]
            have o10 : Od W10 lo W10.heap.size v9 (Rk ++ [q]) := by unfold Od; rw [nds_snoc, List.length_append]; exact o10
            obtain ⟨a9, c9, rfl⟩ := Od.slice o10
            have r10 := rowGro H9.out.row g10 H9.out.far.1
            have m10 := H9.out.mp.gro g10 H9.out.far.2
            have K10 : Hid (Kx (Xr g m v) w W10) := K9.out.gro g10 (fun r h9 => by rcases V1.out with h8 | ⟨j, h8, h7⟩; exact .inl (.inr (.inr (h8.symm.trans h9))); rw [h8] at h9; injection h9 with h9; right; omega)
            have V2 : Hid ((Value.slice a9 (Rk ++ [q]).length c9).ownBlock = v.ownBlock ∨ ∃ j, (Value.slice a9 (Rk ++ [q]).length c9).ownBlock = some j ∧ w.heap.size ≤ j) := by rcases hat with h9 | h9; rcases V1.out with h8 | ⟨j, h8, h7⟩; exact .inl (h9.trans h8); exact .inr ⟨j, h9.trans h8, h7⟩; exact .inr ⟨_, h9, by omega⟩
            have z10 := g10.size
            have l10 := Nat.le_trans H9.out.low g10.size
            have ne10 := H9.out.ne
            refine Ke.y 9 rfl (fun _ _ _ h => h) ?_
            try simp only [Act.put, pu1, pu2, pu3, pu4, pu5, pu6]
            refine Ke.y 10 rfl (fun _ _ _ h => h) ?_
            try simp only [Act.put, pu1, pu2, pu3, pu4, pu5, pu6]
            refine Ke.z 11 rfl (fun K hK => ?_)
            rw [if_pos (by rfl)]
            refine wp_oneG 25 _ _ rfl g 0 (.slice a9 (Rk ++ [q]).length c9) rfl (by rfl) [vc, .map (some m)] 69 r10 (Nat.le_of_ble_eq_true rfl) (by kernel_rfl) rfl [.slice a9 (Rk ++ [q]).length c9, .map (some m)] rfl ?_
            intro W11 r11 g11
            refine hK.out _ _ (Ke.g hHeld g11 (by intro h9; injection h9 with h9; omega)) (fun hHeld => ?_)
            clear hK K
            try simp only [Act.put, pu1, pu2, pu3, pu4, pu5, pu6]
            have H11 : Hid (Sr W11 g m lo (.slice a9 (Rk ++ [q]).length c9) (Rk ++ [q]) (Rk ++ [q])) := ⟨r11, m10.gro g11 (by intro h9; injection h9 with h9; omega), On.mono (On.keep1 o10 (fun j hj => g11.block j (On.lt o10 hj).2.2 (fun e9 => On.neRow o10 r10 (by decide) (hj.trans e9)))) (Nat.le_refl _) g11.size, Nat.le_trans l10 g11.size⟩
            have K11 : Hid (Kx (Xr g m v) w W11) := K10.out.gro g11 (fun r h9 => by injection h9 with h9; exact .inl (.inl h9.symm))
            refine wpAnyH_done (by kernel_rfl) ?_ _
            clear hHeld
            have HE11 : Hid (Sr W11 g m lo (.slice a9 (Rk ++ [q]).length c9) ((ns.take (k + 1)).foldl put16 R) ((ns.take (k + 1)).foldl put16 R)) := by rw [HF.out]; exact H11
            go_wp2
            go_roundw
            case rel => exact ⟨k + 1, _, by omega, by go_num, HE11, K11, V2⟩
            case measure => simp [intOf]; omega
          · -- then the literal
            go_simp
            refine hK.out _ _ (Ke.k (W := W8) hHeld ((Below.refl _ _).alloc (Nat.le_refl _) _)) (fun hHeld => ?_)
            clear hK K
            try simp only [Act.put, pu1, pu2, pu3, pu4, pu5, pu6]
            obtain ⟨W9, HW9, b9, T9⟩ : ∃ X, Hid ((W8.alloc (.cells #[.string q.path, .int .i64 q.a, .int .i64 q.b, .int .i64 q.c, .string q.pre] 38)) = X) ∧ Below W8.heap.size W8 X ∧ Hid (Sn 5 X (.slice (some ⟨W8.heap.size, 0, none⟩) 1 1) 1 (nc q).toList) := ⟨_, rfl, ((Below.refl _ _).alloc (Nat.le_refl _) _), Sn.one9 W8 q⟩
            have HHW9 := HW9.out
            rw [HHW9] at hHeld ⊢
            clear HHW9
            have r9 := Ke.r r8 b9
            have H9 := Ke.h (H8.out.later b9)
            have K9 := Ke.h (K8.out.later b9)
            have z9 := b9.size
            clear r8 H8 K8
            have cg9 := Ke.c (Ke.h H9.out.row)
            clear cg8
            refine Ke.z 4 rfl (fun K hK => ?_)
            go_simp
            refine hK.out _ _ hHeld (fun hHeld => ?_)
            clear hK K
            try simp only [Act.put, pu1, pu2, pu3, pu4, pu5, pu6]
            have k1 : Rk.length + 1 ≤ maxLen := by unfold maxLen; omega
            have k2 : (Rk.length + 1) * 56 ≤ 140737488355328 := by omega
            refine Ke.z 8 rfl (fun K hK => ?_)
            refine step_appw 5 (by omega) rfl (.tmp 34) (.tmp 37) 25 (by rfl) 38 i0 (.agg #[.string ⟨#[]⟩, .int .i64 0, .int .i64 0, .int .i64 0, .string ⟨#[]⟩]) 56 Tryz.underlying25 hi hz0 hz1 hz2 rfl lo _ Rk.length (nds Rk) (by rfl) H9.out.own _ 1 1 (by rfl) (nc q).toList T9.out (by omega) (by intro u9 hu9; simp only [nc, List.mem_cons, List.not_mem_nil, or_false] at hu9; rcases hu9 with rfl | rfl | rfl | rfl | rfl <;> rfl) k1 k2 H9.out.low ?_
            intro v9 W10 o10 g10 hat
            refine hK.out _ _ (Ke.g hHeld g10 (fun h9 => by have := HV.out _ h9; omega)) (fun hHeld => ?_)
            clear hK K
            try simp only [Act.put, pu1, pu2, pu3, pu4, pu5, pu6]
            have o10 : Od W10 lo W10.heap.size v9 (Rk ++ [q]) := by unfold Od; rw [nds_snoc, List.length_append]; exact o10
            obtain ⟨a9, c9, rfl⟩ := Od.slice o10
            have r10 := rowGro H9.out.row g10 H9.out.far.1
            have m10 := H9.out.mp.gro g10 H9.out.far.2
            have K10 : Hid (Kx (Xr g m v) w W10) := K9.out.gro g10 (fun r h9 => by rcases V1.out with h8 | ⟨j, h8, h7⟩; exact .inl (.inr (.inr (h8.symm.trans h9))); rw [h8] at h9; injection h9 with h9; right; omega)
            have V2 : Hid ((Value.slice a9 (Rk ++ [q]).length c9).ownBlock = v.ownBlock ∨ ∃ j, (Value.slice a9 (Rk ++ [q]).length c9).ownBlock = some j ∧ w.heap.size ≤ j) := by rcases hat with h9 | h9; rcases V1.out with h8 | ⟨j, h8, h7⟩; exact .inl (h9.trans h8); exact .inr ⟨j, h9.trans h8, h7⟩; exact .inr ⟨_, h9, by omega⟩
            have z10 := g10.size
            have l10 := Nat.le_trans H9.out.low g10.size
            have ne10 := H9.out.ne
            refine Ke.y 9 rfl (fun _ _ _ h => h) ?_
            try simp only [Act.put, pu1, pu2, pu3, pu4, pu5, pu6]
            refine Ke.y 10 rfl (fun _ _ _ h => h) ?_
            try simp only [Act.put, pu1, pu2, pu3, pu4, pu5, pu6]
            refine Ke.z 11 rfl (fun K hK => ?_)
            rw [if_pos (by rfl)]
            refine wp_oneG 25 _ _ rfl g 0 (.slice a9 (Rk ++ [q]).length c9) rfl (by rfl) [vc, .map (some m)] 69 r10 (Nat.le_of_ble_eq_true rfl) (by kernel_rfl) rfl [.slice a9 (Rk ++ [q]).length c9, .map (some m)] rfl ?_
            intro W11 r11 g11
            refine hK.out _ _ (Ke.g hHeld g11 (by intro h9; injection h9 with h9; omega)) (fun hHeld => ?_)
            clear hK K
            try simp only [Act.put, pu1, pu2, pu3, pu4, pu5, pu6]
            have H11 : Hid (Sr W11 g m lo (.slice a9 (Rk ++ [q]).length c9) (Rk ++ [q]) (Rk ++ [q])) := ⟨r11, m10.gro g11 (by intro h9; injection h9 with h9; omega), On.mono (On.keep1 o10 (fun j hj => g11.block j (On.lt o10 hj).2.2 (fun e9 => On.neRow o10 r10 (by decide) (hj.trans e9)))) (Nat.le_refl _) g11.size, Nat.le_trans l10 g11.size⟩
            have K11 : Hid (Kx (Xr g m v) w W11) := K10.out.gro g11 (fun r h9 => by injection h9 with h9; exact .inl (.inl h9.symm))
            refine wpAnyH_done (by kernel_rfl) ?_ _
            clear hHeld
            have HE11 : Hid (Sr W11 g m lo (.slice a9 (Rk ++ [q]).length c9) ((ns.take (k + 1)).foldl put16 R) ((ns.take (k + 1)).foldl put16 R)) := by rw [HF.out]; exact H11
            go_wp2
            go_roundw
            case rel => exact ⟨k + 1, _, by omega, by go_num, HE11, K11, V2⟩
            case measure => simp [intOf]; omega
      · have hn : has16 Rk q = true := HH.out
        have HF : Hid ((ns.take (k + 1)).foldl put16 R = Rk) := by show _ = _; rw [HRK.out]; unfold put16; rw [if_pos hn]
        have HE : Hid (Sr W4 g m lo vc ((ns.take (k + 1)).foldl put16 R) ((ns.take (k + 1)).foldl put16 R)) := by rw [HF.out]; exact H4
        go_wp2
        go_roundw
        case rel => exact ⟨k + 1, vc, by omega, by go_num, HE, K4, V1⟩
        case measure => simp [intOf]; omega
    · have hlt2 : ¬ (k : Int) < (ns.length : Int) := by omega
      have HE : Hid (k = ns.length) := by show _ = _; omega
      have H2 : Hid (Sr W1 g m lo vc (ns.foldl put16 R) (ns.foldl put16 R)) := by have h9 := H1.out; rw [HE.out, List.take_length] at h9; exact h9
      go_wp2
      first | (refine bodyPost_ret (results_none rfl _ _ _) rfl ?_) | (refine bodyPost_end (results_none rfl _ _ _) rfl ?_)
      exact ⟨rfl, vc, H2.out, K1.out, V1.out⟩

end Go.Proofs.YtlhmemnaiobgkaaGreatDoor.Se
