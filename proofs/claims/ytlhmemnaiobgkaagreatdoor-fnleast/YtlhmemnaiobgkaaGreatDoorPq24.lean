/- Texts in one: Gs1, Gs3. -/
import Derived.Test.YtlhmemnaiobgkaaGreatDoorPq8
import Derived.Test.YtlhmemnaiobgkaaGreatDoorPq12
import Derived.Test.YtlhmemnaiobgkaaGreatDoorPq23
import Derived.Deep.DeepCutAuto
/- Chapter 15, the landed code: copies that are owned; whether an entry has a name. -/
namespace Go.Proofs.YtlhmemnaiobgkaaGreatDoor.Fe
open Go.RowKit Go.Proofs.YtlhmemnaiobgkaaGreatDoor.Mem Go.Proofs.YtlhmemnaiobgkaaGreatDoor.Laws Go.Proofs.YtlhmemnaiobgkaaGreatDoor.Ver Go.Proofs.YtlhmemnaiobgkaaGreatDoor.Ent
set_option linter.unusedVariables false
set_option linter.unusedSimpArgs false

/-- an append of records as one step of a region that draws -/
theorem step_appm {P : Program} (n : Nat) (hn0 : 0 < n) {w : World} {ops : Array Oper} {o : Oper} {a : Act} {K : Act → World → Prop} {Q : Exit → Act → World → Prop} {E : Prop}
    (hg : o.guard = none) (s x : Operand) (t : TypeId) (hop : o.op = Op.call { callee := Callee.builtin Builtin.append, args := #[s, x], argTypes := #[t, t] })
    (e : TypeId) (i : TypeInfo) (z : Value) (bytes : Nat) (ht : P.underlying t = some (.slice e)) (hi : P.info? e = some i) (hz : i.zero = some z) (hsize : i.size = n) (hby : i.bytes = bytes) (hzs : z.cells.size = n)
    (lo : Nat) (v : Value) (m : Nat) (cs : List Value) (hs : a.eval s = v) (hown : On n w lo w.heap.size e v m cs) (y : Value) (hx : a.eval x = y) (k : Nat) (news : List Value) (hsl : Sn n w y k news)
    (h1 : ∀ u ∈ news, u.oneCell' = true) (h63 : m + k ≤ maxLen) (hb : (m + k) * bytes ≤ 140737488355328) (hlo : lo ≤ w.heap.size)
    (hK : ∀ v' w', On n w' lo w'.heap.size e v' (m + k) (cs ++ news) → w.grownBy w' v.ownBlock → K (a.put o.dst v') w') : if Region.wanted o (yielded ops a.tmps) = true then Oper.wp P o a w K Q else E := by
  have hw : Region.wanted o (yielded ops a.tmps) = true := by simp [Region.wanted, hg]
  rw [if_pos hw]
  obtain ⟨hl, ao, cap, rfl, hc, hn, hr⟩ := hsl
  cases ao with
  | none =>
    have hcap := hn rfl
    have hk0 : k = 0 := by omega
    subst hk0
    have hnil : news = [] := List.eq_nil_of_length_eq_zero (by simpa using hl)
    subst hnil
    subst hcap
    have hrun := run_append_owned_none (P := P) (w := w) lo t o.type e i n ht hi v m cs hown.1
    unfold Oper.wp
    simp [execOp, hop, resolve, invoke, builtin, hs, hx, hrun, Result.andThen]
    exact hK v w (by simpa using hown) (World.grownBy.refl _ _)
  | some ad =>
    refine wp_append_own w s x t hop lo e i z n bytes ht hi hz hsize hby hzs hn0 v m cs hs hown.1 ad k cap news hx hl ?_ h1 h63 hb hlo ?_
    · intro j u hj
      have hlt : j < news.length := (List.getElem?_eq_some_iff.1 hj).1
      obtain ⟨b, off, he, hcell⟩ := hr (by
        rcases Nat.eq_zero_or_pos k with h0 | h0
        · subst h0; simp at hl; subst hl; simp at hlt
        · exact h0)
      obtain rfl := Option.some.inj he
      rw [Addr.add_lit, hcell j hlt, hj]
    · intro v' w' ho hgr _
      exact hK v' w' (On.of ho) hgr
theorem On.far {n m : Nat} {w : World} {lo hi g : Nat} {e : TypeId} {v : Value} {cs : List Value} (h : On n w lo hi e v m cs) (hg : g < lo ∨ hi ≤ g) : v.ownBlock ≠ some g := fun hv => by have := On.lt h hv; omega
theorem Od.empty (w : World) (lo hi : Nat) : Od w lo hi (.slice none 0 0) [] := On.nil 5 w lo hi _
theorem Sn.later9 {n m : Nat} {w w' : World} {v : Value} {cs : List Value} (h : Sn n w v m cs) (hb : Below w.heap.size w w') : Sn n w' v m cs := Sn.later h hb

theorem sizeV (n : Nd) : (Tryz.prog.info? 32).map (·.size) = some (vc n).size := by
  show _ = some 4
  kernel_rfl

set_option maxRecDepth 1000000 in
set_option maxHeartbeats 4000000 in
theorem ownv_impl (w : World) (n : Nd) (hp : n.pre.size ≤ 1000000000000) :
    Calls Tryz.prog 54 #[.agg #[.int .i64 n.a, .int .i64 n.b, .int .i64 n.c, .string n.pre]] w fun e w' => e = .returned (.agg #[.int .i64 n.a, .int .i64 n.b, .int .i64 n.c, .string n.pre]) ∧ Below w.heap.size w w' := by
  have B0 : Hid (Below w.heap.size w w) := Below.refl _ _
  obtain ⟨W1, HW1, b1, y1, hS1, r_v1, r_res1⟩ := Ke.l2 w #[.int .i64 n.a, .int .i64 n.b, .int .i64 n.c, .string n.pre] 32 #[.int .i64 0, .int .i64 0, .int .i64 0, .string ⟨#[]⟩] 32
  have z1 := b1.size
  have B1 := Ke.b B0 b1
  have c_v1 := Ke.c r_v1
  have c_res1 := Ke.c r_res1
  go_enter Tryz.func54, Tryz.ntmps54
  go_wp2_with fail
  rw [HW1.out]
  refine (Cln.clone_impl W1 n.pre hp).mono ?_
  rintro e W2 ⟨rfl, b2⟩
  have z2 := b2.size
  have B2 := Ke.b B1 b2
  have r_v2 := Ke.r r_v1 b2
  have r_res2 := Ke.r r_res1 b2
  have c_v2 := Ke.c r_v2
  have c_res2 := Ke.c r_res2
  clear r_v1 c_v1 r_res1 c_res1
  go_wp2_with (refine wpl_oneG rfl 9 _ _ rfl (w.heap.size) 3 (.string n.pre) rfl rfl [.int .i64 n.a, .int .i64 n.b, .int .i64 n.c, .string n.pre] 32 r_v2.out (Nat.le_of_ble_eq_true rfl) (by kernel_rfl) rfl [.int .i64 n.a, .int .i64 n.b, .int .i64 n.c, .string n.pre] rfl ?_)
  intro W3 r_v3 g3
  have r_v3 := Ke.h r_v3
  have z3 := g3.size
  have B3 : Hid (Below w.heap.size w W3) := belowGro B2.out g3 B2.out.size (fun k9 h9 => by injection h9 with h9; have := B2.out.size; omega)
  have r_res3 := Ke.s r_res2 g3
  have c_v3 := Ke.c r_v3
  have c_res3 := Ke.c r_res3
  clear r_res2 c_res2
  clear r_v2 c_v2
  clear g3
  go_wp2_with (first | (refine wpList_load_row rfl 32 _ rfl (w.heap.size) rfl 32 (vc n) (0, 0) _ r_v3.out Tryz.underlying32 rfl (sizeV n) ?_) | (refine wpl_partG rfl 32 _ _ rfl (w.heap.size + 1) 0 (vc n) rfl rfl [.int .i64 0, .int .i64 0, .int .i64 0, .string ⟨#[]⟩] 32 r_res3.out (Nat.le_of_ble_eq_true rfl) (sizeV n) (by simp [vc, Value.oneCell']) [.int .i64 n.a, .int .i64 n.b, .int .i64 n.c, .string n.pre] rfl ?_))
  intro W4 r_res4 g4
  have r_res4 := Ke.h r_res4
  have z4 := g4.size
  have B4 : Hid (Below w.heap.size w W4) := belowGro B3.out g4 B3.out.size (fun k9 h9 => by injection h9 with h9; have := B3.out.size; omega)
  have r_v4 := Ke.s r_v3 g4
  have c_v4 := Ke.c r_v4
  have c_res4 := Ke.c r_res4
  clear r_v3 c_v3
  clear r_res3 c_res3
  go_wp2
  exact bodyPost_ret (v := .agg #[.int .i64 n.a, .int .i64 n.b, .int .i64 n.c, .string n.pre]) (results_cell_row rfl _ _ (w.heap.size + 1) 32 _ (0, 0) _ rfl r_res4.out Tryz.underlying32 rfl (sizeV n)) rfl ⟨rfl, B4.out⟩

set_option maxRecDepth 1000000 in
set_option maxHeartbeats 4000000 in
theorem ownn_impl (w : World) (n : Nd) (hq : n.path.size ≤ 1000000000000) (hp : n.pre.size ≤ 1000000000000) :
    Calls Tryz.prog 72 #[.agg #[.string n.path, .int .i64 n.a, .int .i64 n.b, .int .i64 n.c, .string n.pre]] w fun e w' => e = .returned (.agg #[.string n.path, .int .i64 n.a, .int .i64 n.b, .int .i64 n.c, .string n.pre]) ∧ Below w.heap.size w w' := by
  have B0 : Hid (Below w.heap.size w w) := Below.refl _ _
  obtain ⟨W1, HW1, b1, y1, hS1, r_v1, r_res1⟩ := Ke.l2 w #[.string n.path, .int .i64 n.a, .int .i64 n.b, .int .i64 n.c, .string n.pre] 38 #[.string ⟨#[]⟩, .int .i64 0, .int .i64 0, .int .i64 0, .string ⟨#[]⟩] 38
  have z1 := b1.size
  have B1 := Ke.b B0 b1
  have c_v1 := Ke.c r_v1
  have c_res1 := Ke.c r_res1
  go_enter Tryz.func72, Tryz.ntmps72
  go_wp2_with fail
  rw [HW1.out]
  refine wp_region_held_drew (S := fun w' => (∀ j, w'.cell? ⟨w.heap.size, j, none⟩ = #[.string n.path, .int .i64 n.a, .int .i64 n.b, .int .i64 n.c, .string n.pre][j]?)) (by kernel_rfl) c_v1 (fun hHeld => ?_)
  obtain ⟨W2, HW2, b2⟩ : ∃ X, Hid (W1.drew = X) ∧ Below W1.heap.size W1 X := ⟨_, rfl, Below.drew (Below.refl _ _)⟩
  have HHW2 := HW2.out
  rw [HHW2] at hHeld ⊢
  clear HHW2
  have z2 := b2.size
  have B2 := Ke.b B1 b2
  have r_v2 := Ke.r r_v1 b2
  have r_res2 := Ke.r r_res1 b2
  have c_v2 := Ke.c r_v2
  have c_res2 := Ke.c r_res2
  clear r_v1 c_v1 r_res1 c_res1
  refine Ke.y 0 rfl (fun _ _ _ h => h) ?_
  try simp only [Act.put, pu1, pu2, pu3, pu4, pu5, pu6]
  refine Ke.y 1 rfl (fun _ _ _ h => h) ?_
  try simp only [Act.put, pu1, pu2, pu3, pu4, pu5, pu6]
  refine Ke.y 3 rfl (fun _ _ _ h => h) ?_
  try simp only [Act.put, pu1, pu2, pu3, pu4, pu5, pu6]
  refine Ke.y 4 rfl (fun _ _ _ h => h) ?_
  try simp only [Act.put, pu1, pu2, pu3, pu4, pu5, pu6]
  refine Ke.z 2 rfl (fun K hK => ?_)
  go_simp
  refine (Cln.clone_impl W2 n.path hq).mono ?_
  rintro e W3 ⟨rfl, b3⟩
  refine hK.out _ _ (Ke.k (W := W2) hHeld b3) (fun hHeld => ?_)
  clear hK K
  try simp only [Act.put, pu1, pu2, pu3, pu4, pu5, pu6]
  have z3 := b3.size
  have B3 := Ke.b B2 b3
  have r_v3 := Ke.r r_v2 b3
  have r_res3 := Ke.r r_res2 b3
  have c_v3 := Ke.c r_v3
  have c_res3 := Ke.c r_res3
  clear r_v2 c_v2 r_res2 c_res2
  refine Ke.z 5 rfl (fun K hK => ?_)
  go_simp
  refine (ownv_impl W3 n hp).mono ?_
  rintro e W4 ⟨rfl, b4⟩
  refine hK.out _ _ (Ke.k (W := W3) hHeld b4) (fun hHeld => ?_)
  clear hK K
  try simp only [Act.put, pu1, pu2, pu3, pu4, pu5, pu6]
  have z4 := b4.size
  have B4 := Ke.b B3 b4
  have r_v4 := Ke.r r_v3 b4
  have r_res4 := Ke.r r_res3 b4
  have c_v4 := Ke.c r_v4
  have c_res4 := Ke.c r_res4
  clear r_v3 c_v3 r_res3 c_res3
  refine Ke.y 6 rfl (fun _ _ _ h => h) ?_
  try simp only [Act.put, pu1, pu2, pu3, pu4, pu5, pu6]
  refine Ke.z 7 rfl (fun K hK => ?_)
  rw [if_pos (by rfl)]
  refine wp_partG 38 _ _ rfl (w.heap.size + 1) 0 (nc n) rfl rfl [.string ⟨#[]⟩, .int .i64 0, .int .i64 0, .int .i64 0, .string ⟨#[]⟩] 38 r_res4.out (Nat.le_of_ble_eq_true rfl) (sizeN n) (oneN n) [.string n.path, .int .i64 n.a, .int .i64 n.b, .int .i64 n.c, .string n.pre] rfl ?_
  intro W5 r_res5 g5
  refine hK.out _ _ (Ke.g hHeld g5 (by show some (w.heap.size + 1) ≠ some (w.heap.size); intro h9; injection h9 with h9; omega)) (fun hHeld => ?_)
  clear hK K
  try simp only [Act.put, pu1, pu2, pu3, pu4, pu5, pu6]
  have r_res5 : Hid (W5.heap[w.heap.size + 1]? = some (.cells #[.string n.path, .int .i64 n.a, .int .i64 n.b, .int .i64 n.c, .string n.pre] 38 (0, 0))) := r_res5
  have z5 := g5.size
  have B5 : Hid (Below w.heap.size w W5) := belowGro B4.out g5 B4.out.size (fun k9 h9 => by injection h9 with h9; have := B4.out.size; omega)
  have r_v5 := Ke.s r_v4 g5
  have c_v5 := Ke.c r_v5
  have c_res5 := Ke.c r_res5
  clear r_v4 c_v4
  clear r_res4 c_res4
  clear g5
  refine wpAnyH_done (by kernel_rfl) ?_ _
  clear hHeld
  go_wp2
  exact bodyPost_ret (v := .agg #[.string n.path, .int .i64 n.a, .int .i64 n.b, .int .i64 n.c, .string n.pre]) (results_cell_row rfl _ _ (w.heap.size + 1) 38 _ (0, 0) _ rfl r_res5.out Tryz.underlying38 rfl (sizeN n)) rfl ⟨rfl, B5.out⟩

set_option maxRecDepth 1000000 in
set_option maxHeartbeats 4000000 in
theorem isname_impl (w : World) (q x : Nd) (u : Value) :
    Calls Tryz.prog 49 #[.agg #[.string q.path, .int .i64 q.a, .int .i64 q.b, .int .i64 q.c, .string q.pre], .agg #[.string x.path, .int .i64 x.a, .int .i64 x.b, .int .i64 x.c, .string x.pre, u]] w fun e w' => e = .returned (.bool (isN q x)) ∧ Below w.heap.size w w' := by
  obtain ⟨P, hP⟩ : ∃ P, (x.path.toList == q.path.toList) = P := ⟨_, rfl⟩
  obtain ⟨V, hV⟩ : ∃ V, sameV x.a x.b x.c x.pre q.a q.b q.c q.pre = V := ⟨_, rfl⟩
  have HI : Hid (isN q x = (P && V)) := by show isN _ _ = _; unfold isN; rw [hP, hV]
  have ev : ∀ W, _ := fun W => eqlV W x.a x.b x.c x.pre q.a q.b q.c q.pre
  simp only [hV] at ev
  have gv : ∀ W op y z xs ys, _ := fun W op y z xs ys => grdV W op y z xs ys
  clear hV
  have B0 : Hid (Below w.heap.size w w) := Below.refl _ _
  obtain ⟨W1, HW1, b1, y1, hS1, r_q1, r_x1⟩ := Ke.l2 w #[.string q.path, .int .i64 q.a, .int .i64 q.b, .int .i64 q.c, .string q.pre] 38 #[.string x.path, .int .i64 x.a, .int .i64 x.b, .int .i64 x.c, .string x.pre, u] 34
  have z1 := b1.size
  have B1 := Ke.b B0 b1
  have c_q1 := Ke.c r_q1
  have c_x1 := Ke.c r_x1
  rw [HI.out]
  cases P <;> cases V
  · go_enter Tryz.func49, Tryz.ntmps49
    go_wp2
    (try rw [HW1.out])
    go_ret
    exact ⟨rfl, by first | exact B1.out | (rw [HW1.out]; exact B1.out)⟩
  · go_enter Tryz.func49, Tryz.ntmps49
    go_wp2
    (try rw [HW1.out])
    go_ret
    exact ⟨rfl, by first | exact B1.out | (rw [HW1.out]; exact B1.out)⟩
  · go_enter Tryz.func49, Tryz.ntmps49
    go_wp2
    (try rw [HW1.out])
    go_ret
    exact ⟨rfl, by first | exact B1.out | (rw [HW1.out]; exact B1.out)⟩
  · go_enter Tryz.func49, Tryz.ntmps49
    go_wp2
    (try rw [HW1.out])
    go_ret
    exact ⟨rfl, by first | exact B1.out | (rw [HW1.out]; exact B1.out)⟩

end Go.Proofs.YtlhmemnaiobgkaaGreatDoor.Fe

/- Chapter 15, the landed code: an entry's copy. -/
namespace Go.Proofs.YtlhmemnaiobgkaaGreatDoor.Fe
open Go.RowKit Go.Proofs.YtlhmemnaiobgkaaGreatDoor.Mem Go.Proofs.YtlhmemnaiobgkaaGreatDoor.Laws Go.Proofs.YtlhmemnaiobgkaaGreatDoor.Ver Go.Proofs.YtlhmemnaiobgkaaGreatDoor.Ent
set_option linter.unusedVariables false
set_option linter.unusedSimpArgs false

theorem Sn.one9 (w : World) (n : Nd) : Sn 5 (w.alloc (.cells (nc n) 38)) (.slice (some ⟨w.heap.size, 0, none⟩) 1 1) 1 (nc n).toList := Sn.one 5 w (nc n) _ rfl

set_option maxRecDepth 1000000 in
set_option maxHeartbeats 4000000 in
theorem owne_impl (w : World) (n : Nd) (u : Value) (l : List Nd) (h : Sd w u l) (hl : l.length ≤ 1000000000) (hq : n.path.size ≤ 1000000000000) (hp : n.pre.size ≤ 1000000000000) (hz : ∀ x ∈ l, x.path.size ≤ 1000000000000 ∧ x.pre.size ≤ 1000000000000) :
    Calls Tryz.prog 50 #[.agg #[.string n.path, .int .i64 n.a, .int .i64 n.b, .int .i64 n.c, .string n.pre, u]] w fun e w' => ∃ u', e = .returned (.agg #[.string n.path, .int .i64 n.a, .int .i64 n.b, .int .i64 n.c, .string n.pre, u']) ∧ Od w' w.heap.size w'.heap.size u' l ∧ Below w.heap.size w w' := by
  obtain ⟨i0, hi, hz0, hz1, hz2⟩ := info_parts infoN
  have HS : Hid (Sd w u l) := h
  have HZ : Hid (∀ x ∈ l, x.path.size ≤ 1000000000000 ∧ x.pre.size ≤ 1000000000000) := hz
  obtain ⟨_, au, cu, rfl, hcap, _, _⟩ := h
  clear hz
  have B0 : Hid (Below w.heap.size w w) := Below.refl _ _
  obtain ⟨W1, HW1, b1, y1, hS1, r_e1, r_res1⟩ := Ke.l2 w #[.string n.path, .int .i64 n.a, .int .i64 n.b, .int .i64 n.c, .string n.pre, .slice au l.length cu] 34 #[.string ⟨#[]⟩, .int .i64 0, .int .i64 0, .int .i64 0, .string ⟨#[]⟩, .slice none 0 0] 34
  have z1 := b1.size
  have B1 := Ke.b B0 b1
  have c_e1 := Ke.c r_e1
  have c_res1 := Ke.c r_res1
  go_enter Tryz.func50, Tryz.ntmps50
  go_upto_region 1 with fail
  rw [HW1.out]
  go_cut [3] (fun s3 wx => ∃ (g_own : Nat), s3 = (.pointer (some ⟨g_own, 0, none⟩)) ∧ Below w.heap.size w wx ∧ W1.heap.size ≤ wx.heap.size ∧ W1.heap.size ≤ g_own ∧ g_own < wx.heap.size ∧ wx.heap[g_own]? = some (.cells #[.string n.path, .int .i64 n.a, .int .i64 n.b, .int .i64 n.c, .string n.pre, .slice none 0 0] 34 (0, 0)) ∧ wx.heap[w.heap.size]? = some (.cells #[.string n.path, .int .i64 n.a, .int .i64 n.b, .int .i64 n.c, .string n.pre, .slice au l.length cu] 34 (0, 0)) ∧ wx.heap[w.heap.size + 1]? = some (.cells #[.string ⟨#[]⟩, .int .i64 0, .int .i64 0, .int .i64 0, .string ⟨#[]⟩, .slice none 0 0] 34 (0, 0)))
  case first =>
    refine wp_region_held_drew (S := fun w' => (∀ j, w'.cell? ⟨w.heap.size, j, none⟩ = #[.string n.path, .int .i64 n.a, .int .i64 n.b, .int .i64 n.c, .string n.pre, .slice au l.length cu][j]?)) (by kernel_rfl) c_e1 (fun hHeld => ?_)
    obtain ⟨W2, HW2, b2⟩ : ∃ X, Hid (W1.drew = X) ∧ Below W1.heap.size W1 X := ⟨_, rfl, Below.drew (Below.refl _ _)⟩
    have HHW2 := HW2.out
    rw [HHW2] at hHeld ⊢
    clear HHW2
    have z2 := b2.size
    have B2 := Ke.b B1 b2
    have r_e2 := Ke.r r_e1 b2
    have r_res2 := Ke.r r_res1 b2
    have c_e2 := Ke.c r_e2
    have c_res2 := Ke.c r_res2
    clear r_e1 c_e1 r_res1 c_res1
    refine Ke.y 0 rfl (fun _ _ _ h => h) ?_
    try simp only [Act.put, pu1, pu2, pu3, pu4, pu5, pu6]
    refine Ke.y 1 rfl (fun _ _ _ h => h) ?_
    try simp only [Act.put, pu1, pu2, pu3, pu4, pu5, pu6]
    refine Ke.y 3 rfl (fun _ _ _ h => h) ?_
    try simp only [Act.put, pu1, pu2, pu3, pu4, pu5, pu6]
    refine Ke.y 4 rfl (fun _ _ _ h => h) ?_
    try simp only [Act.put, pu1, pu2, pu3, pu4, pu5, pu6]
    refine wpAnyH_ready (rs := [2, 7]) (by kernel_rfl) (by simp) ?_
    refine AllReadyH.cons rfl (fun K hK => ?_) (AllReadyH.cons rfl (fun K hK => ?_) AllReadyH.nil)
    · go_simp
      refine (Cln.clone_impl W2 n.path hq).mono ?_
      rintro e W3 ⟨rfl, b3⟩
      refine hK.out _ _ (Ke.k (W := W2) hHeld b3) (fun hHeld => ?_)
      clear hK K
      try simp only [Act.put, pu1, pu2, pu3, pu4, pu5, pu6]
      have z3 := b3.size
      have B3 := Ke.b B2 b3
      have r_e3 := Ke.r r_e2 b3
      have r_res3 := Ke.r r_res2 b3
      have c_e3 := Ke.c r_e3
      have c_res3 := Ke.c r_res3
      clear r_e2 c_e2 r_res2 c_res2
      refine wpAnyH_ready (rs := [5, 7]) (by kernel_rfl) (by simp) ?_
      refine AllReadyH.cons rfl (fun K hK => ?_) (AllReadyH.cons rfl (fun K hK => ?_) AllReadyH.nil)
      · go_simp
        refine (ownv_impl W3 n hp).mono ?_
        rintro e W4 ⟨rfl, b4⟩
        refine hK.out _ _ (Ke.k (W := W3) hHeld b4) (fun hHeld => ?_)
        clear hK K
        try simp only [Act.put, pu1, pu2, pu3, pu4, pu5, pu6]
        have z4 := b4.size
        have B4 := Ke.b B3 b4
        have r_e4 := Ke.r r_e3 b4
        have r_res4 := Ke.r r_res3 b4
        have c_e4 := Ke.c r_e4
        have c_res4 := Ke.c r_res4
        clear r_e3 c_e3 r_res3 c_res3
        refine Ke.y 6 rfl (fun _ _ _ h => h) ?_
        try simp only [Act.put, pu1, pu2, pu3, pu4, pu5, pu6]
        refine Ke.z 7 rfl (fun K hK => ?_)
        go_simp
        refine hK.out _ _ (Ke.k (W := W4) hHeld ((Below.refl _ _).alloc (Nat.le_refl _) _)) (fun hHeld => ?_)
        clear hK K
        try simp only [Act.put, pu1, pu2, pu3, pu4, pu5, pu6]
        obtain ⟨W5, HW5, b5, y5, hS5, r_own5⟩ := Ke.l1 W4 #[.string ⟨#[]⟩, .int .i64 0, .int .i64 0, .int .i64 0, .string ⟨#[]⟩, .slice none 0 0] 34
        have HHW5 := HW5.out
        rw [HHW5] at hHeld ⊢
        clear HHW5
        have z5 := b5.size
        have B5 := Ke.b B4 b5
        have r_e5 := Ke.r r_e4 b5
        have r_res5 := Ke.r r_res4 b5
        have c_e5 := Ke.c r_e5
        have c_res5 := Ke.c r_res5
        have c_own5 := Ke.c r_own5
        clear r_e4 c_e4 r_res4 c_res4
        refine Ke.z 8 rfl (fun K hK => ?_)
        rw [if_pos (by rfl)]
        refine wp_partG 34 _ _ rfl (W4.heap.size) 0 (ec n (.slice none 0 0)) rfl rfl [.string ⟨#[]⟩, .int .i64 0, .int .i64 0, .int .i64 0, .string ⟨#[]⟩, .slice none 0 0] 34 r_own5.out (Nat.le_of_ble_eq_true rfl) (sizeE _ _) (oneE _ rfl) [.string n.path, .int .i64 n.a, .int .i64 n.b, .int .i64 n.c, .string n.pre, .slice none 0 0] rfl ?_
        intro W6 r_own6 g6
        refine hK.out _ _ (Ke.g hHeld g6 (by show some (W4.heap.size) ≠ some (w.heap.size); intro h9; injection h9 with h9; omega)) (fun hHeld => ?_)
        clear hK K
        try simp only [Act.put, pu1, pu2, pu3, pu4, pu5, pu6]
        have r_own6 : Hid (W6.heap[W4.heap.size]? = some (.cells #[.string n.path, .int .i64 n.a, .int .i64 n.b, .int .i64 n.c, .string n.pre, .slice none 0 0] 34 (0, 0))) := r_own6
        have z6 := g6.size
        have B6 : Hid (Below w.heap.size w W6) := belowGro B5.out g6 B5.out.size (fun k9 h9 => by injection h9 with h9; have := B5.out.size; omega)
        have r_e6 := Ke.s r_e5 g6
        have r_res6 := Ke.s r_res5 g6
        have c_e6 := Ke.c r_e6
        have c_res6 := Ke.c r_res6
        have c_own6 := Ke.c r_own6
        clear r_e5 c_e5 r_res5 c_res5
        clear r_own5 c_own5
        clear g6
        refine wpAnyH_done (by kernel_rfl) ?_ _
        clear hHeld
        go_wp2_with fail
        go_meet
        exact ⟨W4.heap.size, rfl, B6.out, by omega, by omega, (Array.getElem?_eq_some_iff.1 r_own6.out).1, r_own6.out, r_e6.out, r_res6.out⟩
      · go_simp
        refine hK.out _ _ (Ke.k (W := W3) hHeld ((Below.refl _ _).alloc (Nat.le_refl _) _)) (fun hHeld => ?_)
        clear hK K
        try simp only [Act.put, pu1, pu2, pu3, pu4, pu5, pu6]
        obtain ⟨W4, HW4, b4, y4, hS4, r_own4⟩ := Ke.l1 W3 #[.string ⟨#[]⟩, .int .i64 0, .int .i64 0, .int .i64 0, .string ⟨#[]⟩, .slice none 0 0] 34
        have HHW4 := HW4.out
        rw [HHW4] at hHeld ⊢
        clear HHW4
        have z4 := b4.size
        have B4 := Ke.b B3 b4
        have r_e4 := Ke.r r_e3 b4
        have r_res4 := Ke.r r_res3 b4
        have c_e4 := Ke.c r_e4
        have c_res4 := Ke.c r_res4
        have c_own4 := Ke.c r_own4
        clear r_e3 c_e3 r_res3 c_res3
        refine Ke.z 5 rfl (fun K hK => ?_)
        go_simp
        refine (ownv_impl W4 n hp).mono ?_
        rintro e W5 ⟨rfl, b5⟩
        refine hK.out _ _ (Ke.k (W := W4) hHeld b5) (fun hHeld => ?_)
        clear hK K
        try simp only [Act.put, pu1, pu2, pu3, pu4, pu5, pu6]
        have z5 := b5.size
        have B5 := Ke.b B4 b5
        have r_e5 := Ke.r r_e4 b5
        have r_res5 := Ke.r r_res4 b5
        have r_own5 := Ke.r r_own4 b5
        have c_e5 := Ke.c r_e5
        have c_res5 := Ke.c r_res5
        have c_own5 := Ke.c r_own5
        clear r_e4 c_e4 r_res4 c_res4 r_own4 c_own4
        refine Ke.y 6 rfl (fun _ _ _ h => h) ?_
        try simp only [Act.put, pu1, pu2, pu3, pu4, pu5, pu6]
        refine Ke.z 8 rfl (fun K hK => ?_)
        rw [if_pos (by rfl)]
        refine wp_partG 34 _ _ rfl (W3.heap.size) 0 (ec n (.slice none 0 0)) rfl rfl [.string ⟨#[]⟩, .int .i64 0, .int .i64 0, .int .i64 0, .string ⟨#[]⟩, .slice none 0 0] 34 r_own5.out (Nat.le_of_ble_eq_true rfl) (sizeE _ _) (oneE _ rfl) [.string n.path, .int .i64 n.a, .int .i64 n.b, .int .i64 n.c, .string n.pre, .slice none 0 0] rfl ?_
        intro W6 r_own6 g6
        refine hK.out _ _ (Ke.g hHeld g6 (by show some (W3.heap.size) ≠ some (w.heap.size); intro h9; injection h9 with h9; omega)) (fun hHeld => ?_)
        clear hK K
        try simp only [Act.put, pu1, pu2, pu3, pu4, pu5, pu6]
        have r_own6 : Hid (W6.heap[W3.heap.size]? = some (.cells #[.string n.path, .int .i64 n.a, .int .i64 n.b, .int .i64 n.c, .string n.pre, .slice none 0 0] 34 (0, 0))) := r_own6
        have z6 := g6.size
        have B6 : Hid (Below w.heap.size w W6) := belowGro B5.out g6 B5.out.size (fun k9 h9 => by injection h9 with h9; have := B5.out.size; omega)
        have r_e6 := Ke.s r_e5 g6
        have r_res6 := Ke.s r_res5 g6
        have c_e6 := Ke.c r_e6
        have c_res6 := Ke.c r_res6
        have c_own6 := Ke.c r_own6
        clear r_e5 c_e5 r_res5 c_res5
        clear r_own5 c_own5
        clear g6
        refine wpAnyH_done (by kernel_rfl) ?_ _
        clear hHeld
        go_wp2_with fail
        go_meet
        exact ⟨W3.heap.size, rfl, B6.out, by omega, by omega, (Array.getElem?_eq_some_iff.1 r_own6.out).1, r_own6.out, r_e6.out, r_res6.out⟩
    · go_simp
      refine hK.out _ _ (Ke.k (W := W2) hHeld ((Below.refl _ _).alloc (Nat.le_refl _) _)) (fun hHeld => ?_)
      clear hK K
      try simp only [Act.put, pu1, pu2, pu3, pu4, pu5, pu6]
      obtain ⟨W3, HW3, b3, y3, hS3, r_own3⟩ := Ke.l1 W2 #[.string ⟨#[]⟩, .int .i64 0, .int .i64 0, .int .i64 0, .string ⟨#[]⟩, .slice none 0 0] 34
      have HHW3 := HW3.out
      rw [HHW3] at hHeld ⊢
      clear HHW3
      have z3 := b3.size
      have B3 := Ke.b B2 b3
      have r_e3 := Ke.r r_e2 b3
      have r_res3 := Ke.r r_res2 b3
      have c_e3 := Ke.c r_e3
      have c_res3 := Ke.c r_res3
      have c_own3 := Ke.c r_own3
      clear r_e2 c_e2 r_res2 c_res2
      refine Ke.z 2 rfl (fun K hK => ?_)
      go_simp
      refine (Cln.clone_impl W3 n.path hq).mono ?_
      rintro e W4 ⟨rfl, b4⟩
      refine hK.out _ _ (Ke.k (W := W3) hHeld b4) (fun hHeld => ?_)
      clear hK K
      try simp only [Act.put, pu1, pu2, pu3, pu4, pu5, pu6]
      have z4 := b4.size
      have B4 := Ke.b B3 b4
      have r_e4 := Ke.r r_e3 b4
      have r_res4 := Ke.r r_res3 b4
      have r_own4 := Ke.r r_own3 b4
      have c_e4 := Ke.c r_e4
      have c_res4 := Ke.c r_res4
      have c_own4 := Ke.c r_own4
      clear r_e3 c_e3 r_res3 c_res3 r_own3 c_own3
      refine Ke.z 5 rfl (fun K hK => ?_)
      go_simp
      refine (ownv_impl W4 n hp).mono ?_
      rintro e W5 ⟨rfl, b5⟩
      refine hK.out _ _ (Ke.k (W := W4) hHeld b5) (fun hHeld => ?_)
      clear hK K
      try simp only [Act.put, pu1, pu2, pu3, pu4, pu5, pu6]
      have z5 := b5.size
      have B5 := Ke.b B4 b5
      have r_e5 := Ke.r r_e4 b5
      have r_res5 := Ke.r r_res4 b5
      have r_own5 := Ke.r r_own4 b5
      have c_e5 := Ke.c r_e5
      have c_res5 := Ke.c r_res5
      have c_own5 := Ke.c r_own5
      clear r_e4 c_e4 r_res4 c_res4 r_own4 c_own4
      refine Ke.y 6 rfl (fun _ _ _ h => h) ?_
      try simp only [Act.put, pu1, pu2, pu3, pu4, pu5, pu6]
      refine Ke.z 8 rfl (fun K hK => ?_)
      rw [if_pos (by rfl)]
      refine wp_partG 34 _ _ rfl (W2.heap.size) 0 (ec n (.slice none 0 0)) rfl rfl [.string ⟨#[]⟩, .int .i64 0, .int .i64 0, .int .i64 0, .string ⟨#[]⟩, .slice none 0 0] 34 r_own5.out (Nat.le_of_ble_eq_true rfl) (sizeE _ _) (oneE _ rfl) [.string n.path, .int .i64 n.a, .int .i64 n.b, .int .i64 n.c, .string n.pre, .slice none 0 0] rfl ?_
      intro W6 r_own6 g6
      refine hK.out _ _ (Ke.g hHeld g6 (by show some (W2.heap.size) ≠ some (w.heap.size); intro h9; injection h9 with h9; omega)) (fun hHeld => ?_)
      clear hK K
      try simp only [Act.put, pu1, pu2, pu3, pu4, pu5, pu6]
      have r_own6 : Hid (W6.heap[W2.heap.size]? = some (.cells #[.string n.path, .int .i64 n.a, .int .i64 n.b, .int .i64 n.c, .string n.pre, .slice none 0 0] 34 (0, 0))) := r_own6
      have z6 := g6.size
      have B6 : Hid (Below w.heap.size w W6) := belowGro B5.out g6 B5.out.size (fun k9 h9 => by injection h9 with h9; have := B5.out.size; omega)
      have r_e6 := Ke.s r_e5 g6
      have r_res6 := Ke.s r_res5 g6
      have c_e6 := Ke.c r_e6
      have c_res6 := Ke.c r_res6
      have c_own6 := Ke.c r_own6
      clear r_e5 c_e5 r_res5 c_res5
      clear r_own5 c_own5
      clear g6
      refine wpAnyH_done (by kernel_rfl) ?_ _
      clear hHeld
      go_wp2_with fail
      go_meet
      exact ⟨W2.heap.size, rfl, B6.out, by omega, by omega, (Array.getElem?_eq_some_iff.1 r_own6.out).1, r_own6.out, r_e6.out, r_res6.out⟩
  case rest =>
  obtain ⟨g_own, rfl, B2, z2, hg1_own, hg2_own, r_own2, r_e2, r_res2⟩ := hcut
  revert B2 z2 hg1_own hg2_own r_own2 r_e2 r_res2
  generalize wc = W2
  intro B2 z2 hg1_own hg2_own r_own2 r_e2 r_res2
  have B2 := Ke.h B2
  have r_own2 := Ke.h r_own2
  have r_e2 := Ke.h r_e2
  have r_res2 := Ke.h r_res2
  clear r_e1 c_e1 r_res1 c_res1
  have c_e2 := Ke.c r_e2
  have c_res2 := Ke.c r_res2
  have c_own2 := Ke.c r_own2
  go_wp2
  go_loopw [16] (fun iv wr => ∃ (k : Nat) (ao : Option Addr) (L cap lo hi : Nat), k ≤ l.length ∧ iv = .int .i64 (k : Int) ∧ W2.heap.size ≤ lo ∧ W2.heap.size ≤ wr.heap.size ∧ lo ≤ hi ∧ hi ≤ wr.heap.size ∧ Hid (Below w.heap.size w wr) ∧ Hid (wr.heap[g_own]? = some (.cells #[.string n.path, .int .i64 n.a, .int .i64 n.b, .int .i64 n.c, .string n.pre, .slice ao L cap] 34 (0, 0))) ∧ Hid (wr.heap[w.heap.size + 1]? = some (.cells #[.string ⟨#[]⟩, .int .i64 0, .int .i64 0, .int .i64 0, .string ⟨#[]⟩, .slice none 0 0] 34 (0, 0))) ∧ Hid (Odt wr lo hi (.slice ao L cap) (l.take k))) (fun iv _ => l.length - (intOf iv).toNat)
  case atStart => exact ⟨0, none, 0, 0, W2.heap.size, W2.heap.size, Nat.zero_le _, rfl, Nat.le_refl _, Nat.le_refl _, Nat.le_refl _, Nat.le_refl _, B2, r_own2, r_res2, ⟨by rw [List.take_zero]; exact Od.empty _ _ _, Nat.le_refl _⟩⟩
  case round =>
    obtain ⟨k, ao, L, cap, lo, hi9, hk, rfl, hlo, hwr, hlh, hhw, B3, r_own3, r_res3, f_d3⟩ := hrel
    obtain ⟨W3, hW3⟩ : ∃ X, X = wr := ⟨_, rfl⟩
    subst hW3
    clear r_own2 c_own2 r_res2 c_res2 r_e2 c_e2
    have c_own3 := Ke.c r_own3
    have c_res3 := Ke.c r_res3
    by_cases hlt : k < l.length
    · have hlt2 : (k : Int) < (l.length : Int) := by omega
      obtain ⟨x, hx⟩ : ∃ x, l[k]? = some x := ⟨l[k], by simp [hlt]⟩
      obtain ⟨b, off, cap9, he, _, m0, m1, m2, m3, m4⟩ := Sd.at (HS.out.later B3.out) hx
      simp only [Value.slice.injEq] at he
      obtain ⟨rfl, _, rfl⟩ := he
      have HX : Hid (l[k]? = some x) := hx
      obtain ⟨hx1, hx2⟩ := HZ.out x (List.mem_of_getElem? hx)
      have htk : (l.take k).length = k := by rw [List.length_take]; omega
      have HT : Hid ((l.take k).length = k) := htk
      clear hx htk
      obtain ⟨W4, HW4, b4, y4, hS4, r_x4⟩ := Ke.l1 W3 #[.string x.path, .int .i64 x.a, .int .i64 x.b, .int .i64 x.c, .string x.pre] 38
      have z4 := b4.size
      have B4 := Ke.b B3 b4
      have r_own4 := Ke.r r_own3 b4
      have r_res4 := Ke.r r_res3 b4
      have c_own4 := Ke.c r_own4
      have c_res4 := Ke.c r_res4
      have c_x4 := Ke.c r_x4
      clear r_own3 c_own3 r_res3 c_res3
      have f_d4 : Hid (Odt W4 lo hi9 (.slice ao L cap) (l.take k)) := Odt.later f_d3.out b4
      clear f_d3
      go_wp2_with fail
      rw [HW4.out]
      clear m0 m1 m2 m3 m4
      refine wp_region_held_drew (S := fun w' => (∀ j, w'.cell? ⟨W3.heap.size, j, none⟩ = #[.string x.path, .int .i64 x.a, .int .i64 x.b, .int .i64 x.c, .string x.pre][j]?)) (by kernel_rfl) c_x4 (fun hHeld => ?_)
      obtain ⟨W5, HW5, b5⟩ : ∃ X, Hid (W4.drew = X) ∧ Below W4.heap.size W4 X := ⟨_, rfl, Below.drew (Below.refl _ _)⟩
      have HHW5 := HW5.out
      rw [HHW5] at hHeld ⊢
      clear HHW5
      have z5 := b5.size
      have B5 := Ke.b B4 b5
      have r_own5 := Ke.r r_own4 b5
      have r_res5 := Ke.r r_res4 b5
      have r_x5 := Ke.r r_x4 b5
      have c_own5 := Ke.c r_own5
      have c_res5 := Ke.c r_res5
      have c_x5 := Ke.c r_x5
      clear r_own4 c_own4 r_res4 c_res4 r_x4 c_x4
      have f_d5 : Hid (Odt W5 lo hi9 (.slice ao L cap) (l.take k)) := Odt.later f_d4.out b5
      clear f_d4
      refine Ke.y 0 rfl (fun _ _ _ h => h) ?_
      try simp only [Act.put, pu1, pu2, pu3, pu4, pu5, pu6]
      refine Ke.y 2 rfl (fun _ _ _ h => h) ?_
      try simp only [Act.put, pu1, pu2, pu3, pu4, pu5, pu6]
      refine wpAnyH_ready (rs := [1, 3]) (by kernel_rfl) (by simp) ?_
      refine AllReadyH.cons rfl (fun K hK => ?_) (AllReadyH.cons rfl (fun K hK => ?_) AllReadyH.nil)
      · go_simp
        refine hK.out _ _ hHeld (fun hHeld => ?_)
        clear hK K
        try simp only [Act.put, pu1, pu2, pu3, pu4, pu5, pu6]
        refine Ke.z 3 rfl (fun K hK => ?_)
        go_simp
        refine (ownn_impl W5 x hx1 hx2).mono ?_
        rintro e W6 ⟨rfl, b6⟩
        refine hK.out _ _ (Ke.k (W := W5) hHeld b6) (fun hHeld => ?_)
        clear hK K
        try simp only [Act.put, pu1, pu2, pu3, pu4, pu5, pu6]
        have z6 := b6.size
        have B6 := Ke.b B5 b6
        have r_own6 := Ke.r r_own5 b6
        have r_res6 := Ke.r r_res5 b6
        have r_x6 := Ke.r r_x5 b6
        have c_own6 := Ke.c r_own6
        have c_res6 := Ke.c r_res6
        have c_x6 := Ke.c r_x6
        clear r_own5 c_own5 r_res5 c_res5 r_x5 c_x5
        have f_d6 : Hid (Odt W6 lo hi9 (.slice ao L cap) (l.take k)) := Odt.later f_d5.out b6
        clear f_d5
        refine Ke.z 4 rfl (fun K hK => ?_)
        go_simp
        refine hK.out _ _ (Ke.k (W := W6) hHeld ((Below.refl _ _).alloc (Nat.le_refl _) _)) (fun hHeld => ?_)
        clear hK K
        try simp only [Act.put, pu1, pu2, pu3, pu4, pu5, pu6]
        obtain ⟨W7, HW7, b7, ff7⟩ : ∃ X, Hid ((W6.alloc (.cells #[.string x.path, .int .i64 x.a, .int .i64 x.b, .int .i64 x.c, .string x.pre] 38)) = X) ∧ Below W6.heap.size W6 X ∧ Hid (Sn 5 X (.slice (some ⟨W6.heap.size, 0, none⟩) 1 1) 1 (nc x).toList) := ⟨_, rfl, ((Below.refl _ _).alloc (Nat.le_refl _) _), Sn.one9 W6 x⟩
        have HHW7 := HW7.out
        rw [HHW7] at hHeld ⊢
        clear HHW7
        have z7 := b7.size
        have B7 := Ke.b B6 b7
        have r_own7 := Ke.r r_own6 b7
        have r_res7 := Ke.r r_res6 b7
        have r_x7 := Ke.r r_x6 b7
        have c_own7 := Ke.c r_own7
        have c_res7 := Ke.c r_res7
        have c_x7 := Ke.c r_x7
        clear r_own6 c_own6 r_res6 c_res6 r_x6 c_x6
        have f_d7 : Hid (Odt W7 lo hi9 (.slice ao L cap) (l.take k)) := Odt.later f_d6.out b7
        clear f_d6
        have f_t7 : Hid (Sn 5 W7 (.slice (some ⟨W6.heap.size, 0, none⟩) 1 1) 1 (nc x).toList) := ff7.out
        clear ff7
        refine Ke.z 5 rfl (fun K hK => ?_)
        have k1 : (l.take k).length + 1 ≤ maxLen := by rw [HT.out]; unfold maxLen; omega
        have k2 : ((l.take k).length + 1) * 56 ≤ 140737488355328 := by rw [HT.out]; omega
        refine step_appm 5 (by omega) rfl (.tmp 21) (.tmp 24) 25 (by rfl) 38 i0 (.agg #[.string ⟨#[]⟩, .int .i64 0, .int .i64 0, .int .i64 0, .string ⟨#[]⟩]) 56 Tryz.underlying25 hi hz0 hz1 hz2 rfl lo _ (l.take k).length (nds (l.take k)) (by rfl) (Odt.wide f_d7.out (Nat.le_refl _)) _ (by rfl) 1 (nc x).toList f_t7.out (by intro u9 hu9; simp only [nc, List.mem_cons, List.not_mem_nil, or_false] at hu9; rcases hu9 with rfl | rfl | rfl | rfl | rfl <;> rfl) k1 k2 (by omega) ?_
        intro v9 W8 o9 g8
        refine hK.out _ _ (Ke.g hHeld g8 (On.far f_d7.out.1 (by omega))) (fun hHeld => ?_)
        clear hK K
        try simp only [Act.put, pu1, pu2, pu3, pu4, pu5, pu6]
        have f_d8 : Hid (Odt W8 lo W8.heap.size v9 (l.take (k + 1))) := ⟨by unfold Od; rw [take_snoc15 HX.out, nds_snoc, List.length_append]; exact o9, Nat.le_refl _⟩
        clear o9 k1 k2
        have z8 := g8.size
        have B8 : Hid (Below w.heap.size w W8) := belowGro B7.out g8 B7.out.size (fun k9 h9 => by have h8 := (On.lt f_d7.out.1 h9).1; have := B3.out.size; have := B2.out.size; omega)
        have r_own8 : Hid (W8.heap[g_own]? = some (.cells #[.string n.path, .int .i64 n.a, .int .i64 n.b, .int .i64 n.c, .string n.pre, .slice ao L cap] 34 (0, 0))) := rowGro r_own7.out g8 (On.neRow f_d7.out.1 r_own7.out (by decide))
        have r_res8 : Hid (W8.heap[w.heap.size + 1]? = some (.cells #[.string ⟨#[]⟩, .int .i64 0, .int .i64 0, .int .i64 0, .string ⟨#[]⟩, .slice none 0 0] 34 (0, 0))) := rowGro r_res7.out g8 (On.neRow f_d7.out.1 r_res7.out (by decide))
        have r_x8 : Hid (W8.heap[W3.heap.size]? = some (.cells #[.string x.path, .int .i64 x.a, .int .i64 x.b, .int .i64 x.c, .string x.pre] 38 (0, 0))) := rowGro r_x7.out g8 (On.far f_d7.out.1 (by omega))
        obtain ⟨ao9, L9, cap9, rfl⟩ : ∃ ao9 L9 cap9, v9 = .slice ao9 L9 cap9 := by obtain ⟨a9, c9, e9⟩ := Od.slice f_d8.out.1; exact ⟨a9, _, c9, e9⟩
        have c_own8 := Ke.c r_own8
        have c_res8 := Ke.c r_res8
        have c_x8 := Ke.c r_x8
        clear r_own7 c_own7 r_res7 c_res7 r_x7 c_x7
        clear f_d7 f_t7 g8
        refine Ke.y 6 rfl (fun _ _ _ h => h) ?_
        try simp only [Act.put, pu1, pu2, pu3, pu4, pu5, pu6]
        refine Ke.z 7 rfl (fun K hK => ?_)
        rw [if_pos (by rfl)]
        refine wp_oneG 25 _ _ rfl (g_own) 5 (.slice ao9 L9 cap9) rfl rfl [.string n.path, .int .i64 n.a, .int .i64 n.b, .int .i64 n.c, .string n.pre, .slice ao L cap] 34 r_own8.out (Nat.le_of_ble_eq_true rfl) (by kernel_rfl) rfl [.string n.path, .int .i64 n.a, .int .i64 n.b, .int .i64 n.c, .string n.pre, .slice ao9 L9 cap9] rfl ?_
        intro W9 r_own9 g9
        refine hK.out _ _ (Ke.g hHeld g9 (by show some (g_own) ≠ some (W3.heap.size); intro h9; injection h9 with h9; omega)) (fun hHeld => ?_)
        clear hK K
        try simp only [Act.put, pu1, pu2, pu3, pu4, pu5, pu6]
        have f_d9 : Hid (Odt W9 lo W8.heap.size (.slice ao9 L9 cap9) (l.take (k + 1))) := Odt.gro f_d8.out g9 (fun k9 h9 => by injection h9 with h9; omega)
        have r_own9 : Hid (W9.heap[g_own]? = some (.cells #[.string n.path, .int .i64 n.a, .int .i64 n.b, .int .i64 n.c, .string n.pre, .slice ao9 L9 cap9] 34 (0, 0))) := r_own9
        have z9 := g9.size
        have B9 : Hid (Below w.heap.size w W9) := belowGro B8.out g9 B8.out.size (fun k9 h9 => by injection h9 with h9; have := B8.out.size; omega)
        have r_res9 := Ke.s r_res8 g9
        have r_x9 := Ke.s r_x8 g9
        have c_own9 := Ke.c r_own9
        have c_res9 := Ke.c r_res9
        have c_x9 := Ke.c r_x9
        clear r_res8 c_res8 r_x8 c_x8
        clear r_own8 c_own8
        clear f_d8
        clear g9
        refine wpAnyH_done (by kernel_rfl) ?_ _
        clear hHeld
        go_wp2
        go_roundw
        case rel => exact ⟨k + 1, ao9, L9, cap9, lo, _, by omega, by go_num, hlo, by omega, by omega, by omega, B9, r_own9, r_res9, f_d9⟩
        case measure => simp [intOf]; omega
      · go_simp
        refine (ownn_impl W5 x hx1 hx2).mono ?_
        rintro e W6 ⟨rfl, b6⟩
        refine hK.out _ _ (Ke.k (W := W5) hHeld b6) (fun hHeld => ?_)
        clear hK K
        try simp only [Act.put, pu1, pu2, pu3, pu4, pu5, pu6]
        have z6 := b6.size
        have B6 := Ke.b B5 b6
        have r_own6 := Ke.r r_own5 b6
        have r_res6 := Ke.r r_res5 b6
        have r_x6 := Ke.r r_x5 b6
        have c_own6 := Ke.c r_own6
        have c_res6 := Ke.c r_res6
        have c_x6 := Ke.c r_x6
        clear r_own5 c_own5 r_res5 c_res5 r_x5 c_x5
        have f_d6 : Hid (Odt W6 lo hi9 (.slice ao L cap) (l.take k)) := Odt.later f_d5.out b6
        clear f_d5
        refine wpAnyH_ready (rs := [1, 4]) (by kernel_rfl) (by simp) ?_
        refine AllReadyH.cons rfl (fun K hK => ?_) (AllReadyH.cons rfl (fun K hK => ?_) AllReadyH.nil)
        · go_simp
          refine hK.out _ _ hHeld (fun hHeld => ?_)
          clear hK K
          try simp only [Act.put, pu1, pu2, pu3, pu4, pu5, pu6]
          refine Ke.z 4 rfl (fun K hK => ?_)
          go_simp
          refine hK.out _ _ (Ke.k (W := W6) hHeld ((Below.refl _ _).alloc (Nat.le_refl _) _)) (fun hHeld => ?_)
          clear hK K
          try simp only [Act.put, pu1, pu2, pu3, pu4, pu5, pu6]
          obtain ⟨W7, HW7, b7, ff7⟩ : ∃ X, Hid ((W6.alloc (.cells #[.string x.path, .int .i64 x.a, .int .i64 x.b, .int .i64 x.c, .string x.pre] 38)) = X) ∧ Below W6.heap.size W6 X ∧ Hid (Sn 5 X (.slice (some ⟨W6.heap.size, 0, none⟩) 1 1) 1 (nc x).toList) := ⟨_, rfl, ((Below.refl _ _).alloc (Nat.le_refl _) _), Sn.one9 W6 x⟩
          have HHW7 := HW7.out
          rw [HHW7] at hHeld ⊢
          clear HHW7
          have z7 := b7.size
          have B7 := Ke.b B6 b7
          have r_own7 := Ke.r r_own6 b7
          have r_res7 := Ke.r r_res6 b7
          have r_x7 := Ke.r r_x6 b7
          have c_own7 := Ke.c r_own7
          have c_res7 := Ke.c r_res7
          have c_x7 := Ke.c r_x7
          clear r_own6 c_own6 r_res6 c_res6 r_x6 c_x6
          have f_d7 : Hid (Odt W7 lo hi9 (.slice ao L cap) (l.take k)) := Odt.later f_d6.out b7
          clear f_d6
          have f_t7 : Hid (Sn 5 W7 (.slice (some ⟨W6.heap.size, 0, none⟩) 1 1) 1 (nc x).toList) := ff7.out
          clear ff7
          refine Ke.z 5 rfl (fun K hK => ?_)
          have k1 : (l.take k).length + 1 ≤ maxLen := by rw [HT.out]; unfold maxLen; omega
          have k2 : ((l.take k).length + 1) * 56 ≤ 140737488355328 := by rw [HT.out]; omega
          refine step_appm 5 (by omega) rfl (.tmp 21) (.tmp 24) 25 (by rfl) 38 i0 (.agg #[.string ⟨#[]⟩, .int .i64 0, .int .i64 0, .int .i64 0, .string ⟨#[]⟩]) 56 Tryz.underlying25 hi hz0 hz1 hz2 rfl lo _ (l.take k).length (nds (l.take k)) (by rfl) (Odt.wide f_d7.out (Nat.le_refl _)) _ (by rfl) 1 (nc x).toList f_t7.out (by intro u9 hu9; simp only [nc, List.mem_cons, List.not_mem_nil, or_false] at hu9; rcases hu9 with rfl | rfl | rfl | rfl | rfl <;> rfl) k1 k2 (by omega) ?_
          intro v9 W8 o9 g8
          refine hK.out _ _ (Ke.g hHeld g8 (On.far f_d7.out.1 (by omega))) (fun hHeld => ?_)
          clear hK K
          try simp only [Act.put, pu1, pu2, pu3, pu4, pu5, pu6]
          have f_d8 : Hid (Odt W8 lo W8.heap.size v9 (l.take (k + 1))) := ⟨by unfold Od; rw [take_snoc15 HX.out, nds_snoc, List.length_append]; exact o9, Nat.le_refl _⟩
          clear o9 k1 k2
          have z8 := g8.size
          have B8 : Hid (Below w.heap.size w W8) := belowGro B7.out g8 B7.out.size (fun k9 h9 => by have h8 := (On.lt f_d7.out.1 h9).1; have := B3.out.size; have := B2.out.size; omega)
          have r_own8 : Hid (W8.heap[g_own]? = some (.cells #[.string n.path, .int .i64 n.a, .int .i64 n.b, .int .i64 n.c, .string n.pre, .slice ao L cap] 34 (0, 0))) := rowGro r_own7.out g8 (On.neRow f_d7.out.1 r_own7.out (by decide))
          have r_res8 : Hid (W8.heap[w.heap.size + 1]? = some (.cells #[.string ⟨#[]⟩, .int .i64 0, .int .i64 0, .int .i64 0, .string ⟨#[]⟩, .slice none 0 0] 34 (0, 0))) := rowGro r_res7.out g8 (On.neRow f_d7.out.1 r_res7.out (by decide))
          have r_x8 : Hid (W8.heap[W3.heap.size]? = some (.cells #[.string x.path, .int .i64 x.a, .int .i64 x.b, .int .i64 x.c, .string x.pre] 38 (0, 0))) := rowGro r_x7.out g8 (On.far f_d7.out.1 (by omega))
          obtain ⟨ao9, L9, cap9, rfl⟩ : ∃ ao9 L9 cap9, v9 = .slice ao9 L9 cap9 := by obtain ⟨a9, c9, e9⟩ := Od.slice f_d8.out.1; exact ⟨a9, _, c9, e9⟩
          have c_own8 := Ke.c r_own8
          have c_res8 := Ke.c r_res8
          have c_x8 := Ke.c r_x8
          clear r_own7 c_own7 r_res7 c_res7 r_x7 c_x7
          clear f_d7 f_t7 g8
          refine Ke.y 6 rfl (fun _ _ _ h => h) ?_
          try simp only [Act.put, pu1, pu2, pu3, pu4, pu5, pu6]
          refine Ke.z 7 rfl (fun K hK => ?_)
          rw [if_pos (by rfl)]
          refine wp_oneG 25 _ _ rfl (g_own) 5 (.slice ao9 L9 cap9) rfl rfl [.string n.path, .int .i64 n.a, .int .i64 n.b, .int .i64 n.c, .string n.pre, .slice ao L cap] 34 r_own8.out (Nat.le_of_ble_eq_true rfl) (by kernel_rfl) rfl [.string n.path, .int .i64 n.a, .int .i64 n.b, .int .i64 n.c, .string n.pre, .slice ao9 L9 cap9] rfl ?_
          intro W9 r_own9 g9
          refine hK.out _ _ (Ke.g hHeld g9 (by show some (g_own) ≠ some (W3.heap.size); intro h9; injection h9 with h9; omega)) (fun hHeld => ?_)
          clear hK K
          try simp only [Act.put, pu1, pu2, pu3, pu4, pu5, pu6]
          have f_d9 : Hid (Odt W9 lo W8.heap.size (.slice ao9 L9 cap9) (l.take (k + 1))) := Odt.gro f_d8.out g9 (fun k9 h9 => by injection h9 with h9; omega)
          have r_own9 : Hid (W9.heap[g_own]? = some (.cells #[.string n.path, .int .i64 n.a, .int .i64 n.b, .int .i64 n.c, .string n.pre, .slice ao9 L9 cap9] 34 (0, 0))) := r_own9
          have z9 := g9.size
          have B9 : Hid (Below w.heap.size w W9) := belowGro B8.out g9 B8.out.size (fun k9 h9 => by injection h9 with h9; have := B8.out.size; omega)
          have r_res9 := Ke.s r_res8 g9
          have r_x9 := Ke.s r_x8 g9
          have c_own9 := Ke.c r_own9
          have c_res9 := Ke.c r_res9
          have c_x9 := Ke.c r_x9
          clear r_res8 c_res8 r_x8 c_x8
          clear r_own8 c_own8
          clear f_d8
          clear g9
          refine wpAnyH_done (by kernel_rfl) ?_ _
          clear hHeld
          go_wp2
          go_roundw
          case rel => exact ⟨k + 1, ao9, L9, cap9, lo, _, by omega, by go_num, hlo, by omega, by omega, by omega, B9, r_own9, r_res9, f_d9⟩
          case measure => simp [intOf]; omega
        · go_simp
          refine hK.out _ _ (Ke.k (W := W6) hHeld ((Below.refl _ _).alloc (Nat.le_refl _) _)) (fun hHeld => ?_)
          clear hK K
          try simp only [Act.put, pu1, pu2, pu3, pu4, pu5, pu6]
          obtain ⟨W7, HW7, b7, ff7⟩ : ∃ X, Hid ((W6.alloc (.cells #[.string x.path, .int .i64 x.a, .int .i64 x.b, .int .i64 x.c, .string x.pre] 38)) = X) ∧ Below W6.heap.size W6 X ∧ Hid (Sn 5 X (.slice (some ⟨W6.heap.size, 0, none⟩) 1 1) 1 (nc x).toList) := ⟨_, rfl, ((Below.refl _ _).alloc (Nat.le_refl _) _), Sn.one9 W6 x⟩
          have HHW7 := HW7.out
          rw [HHW7] at hHeld ⊢
          clear HHW7
          have z7 := b7.size
          have B7 := Ke.b B6 b7
          have r_own7 := Ke.r r_own6 b7
          have r_res7 := Ke.r r_res6 b7
          have r_x7 := Ke.r r_x6 b7
          have c_own7 := Ke.c r_own7
          have c_res7 := Ke.c r_res7
          have c_x7 := Ke.c r_x7
          clear r_own6 c_own6 r_res6 c_res6 r_x6 c_x6
          have f_d7 : Hid (Odt W7 lo hi9 (.slice ao L cap) (l.take k)) := Odt.later f_d6.out b7
          clear f_d6
          have f_t7 : Hid (Sn 5 W7 (.slice (some ⟨W6.heap.size, 0, none⟩) 1 1) 1 (nc x).toList) := ff7.out
          clear ff7
          refine Ke.z 1 rfl (fun K hK => ?_)
          go_simp
          refine hK.out _ _ hHeld (fun hHeld => ?_)
          clear hK K
          try simp only [Act.put, pu1, pu2, pu3, pu4, pu5, pu6]
          refine Ke.z 5 rfl (fun K hK => ?_)
          have k1 : (l.take k).length + 1 ≤ maxLen := by rw [HT.out]; unfold maxLen; omega
          have k2 : ((l.take k).length + 1) * 56 ≤ 140737488355328 := by rw [HT.out]; omega
          refine step_appm 5 (by omega) rfl (.tmp 21) (.tmp 24) 25 (by rfl) 38 i0 (.agg #[.string ⟨#[]⟩, .int .i64 0, .int .i64 0, .int .i64 0, .string ⟨#[]⟩]) 56 Tryz.underlying25 hi hz0 hz1 hz2 rfl lo _ (l.take k).length (nds (l.take k)) (by rfl) (Odt.wide f_d7.out (Nat.le_refl _)) _ (by rfl) 1 (nc x).toList f_t7.out (by intro u9 hu9; simp only [nc, List.mem_cons, List.not_mem_nil, or_false] at hu9; rcases hu9 with rfl | rfl | rfl | rfl | rfl <;> rfl) k1 k2 (by omega) ?_
          intro v9 W8 o9 g8
          refine hK.out _ _ (Ke.g hHeld g8 (On.far f_d7.out.1 (by omega))) (fun hHeld => ?_)
          clear hK K
          try simp only [Act.put, pu1, pu2, pu3, pu4, pu5, pu6]
          have f_d8 : Hid (Odt W8 lo W8.heap.size v9 (l.take (k + 1))) := ⟨by unfold Od; rw [take_snoc15 HX.out, nds_snoc, List.length_append]; exact o9, Nat.le_refl _⟩
          clear o9 k1 k2
          have z8 := g8.size
          have B8 : Hid (Below w.heap.size w W8) := belowGro B7.out g8 B7.out.size (fun k9 h9 => by have h8 := (On.lt f_d7.out.1 h9).1; have := B3.out.size; have := B2.out.size; omega)
          have r_own8 : Hid (W8.heap[g_own]? = some (.cells #[.string n.path, .int .i64 n.a, .int .i64 n.b, .int .i64 n.c, .string n.pre, .slice ao L cap] 34 (0, 0))) := rowGro r_own7.out g8 (On.neRow f_d7.out.1 r_own7.out (by decide))
          have r_res8 : Hid (W8.heap[w.heap.size + 1]? = some (.cells #[.string ⟨#[]⟩, .int .i64 0, .int .i64 0, .int .i64 0, .string ⟨#[]⟩, .slice none 0 0] 34 (0, 0))) := rowGro r_res7.out g8 (On.neRow f_d7.out.1 r_res7.out (by decide))
          have r_x8 : Hid (W8.heap[W3.heap.size]? = some (.cells #[.string x.path, .int .i64 x.a, .int .i64 x.b, .int .i64 x.c, .string x.pre] 38 (0, 0))) := rowGro r_x7.out g8 (On.far f_d7.out.1 (by omega))
          obtain ⟨ao9, L9, cap9, rfl⟩ : ∃ ao9 L9 cap9, v9 = .slice ao9 L9 cap9 := by obtain ⟨a9, c9, e9⟩ := Od.slice f_d8.out.1; exact ⟨a9, _, c9, e9⟩
          have c_own8 := Ke.c r_own8
          have c_res8 := Ke.c r_res8
          have c_x8 := Ke.c r_x8
          clear r_own7 c_own7 r_res7 c_res7 r_x7 c_x7
          clear f_d7 f_t7 g8
          refine Ke.y 6 rfl (fun _ _ _ h => h) ?_
          try simp only [Act.put, pu1, pu2, pu3, pu4, pu5, pu6]
          refine Ke.z 7 rfl (fun K hK => ?_)
          rw [if_pos (by rfl)]
          refine wp_oneG 25 _ _ rfl (g_own) 5 (.slice ao9 L9 cap9) rfl rfl [.string n.path, .int .i64 n.a, .int .i64 n.b, .int .i64 n.c, .string n.pre, .slice ao L cap] 34 r_own8.out (Nat.le_of_ble_eq_true rfl) (by kernel_rfl) rfl [.string n.path, .int .i64 n.a, .int .i64 n.b, .int .i64 n.c, .string n.pre, .slice ao9 L9 cap9] rfl ?_
          intro W9 r_own9 g9
          refine hK.out _ _ (Ke.g hHeld g9 (by show some (g_own) ≠ some (W3.heap.size); intro h9; injection h9 with h9; omega)) (fun hHeld => ?_)
          clear hK K
          try simp only [Act.put, pu1, pu2, pu3, pu4, pu5, pu6]
          have f_d9 : Hid (Odt W9 lo W8.heap.size (.slice ao9 L9 cap9) (l.take (k + 1))) := Odt.gro f_d8.out g9 (fun k9 h9 => by injection h9 with h9; omega)
          have r_own9 : Hid (W9.heap[g_own]? = some (.cells #[.string n.path, .int .i64 n.a, .int .i64 n.b, .int .i64 n.c, .string n.pre, .slice ao9 L9 cap9] 34 (0, 0))) := r_own9
          have z9 := g9.size
          have B9 : Hid (Below w.heap.size w W9) := belowGro B8.out g9 B8.out.size (fun k9 h9 => by injection h9 with h9; have := B8.out.size; omega)
          have r_res9 := Ke.s r_res8 g9
          have r_x9 := Ke.s r_x8 g9
          have c_own9 := Ke.c r_own9
          have c_res9 := Ke.c r_res9
          have c_x9 := Ke.c r_x9
          clear r_res8 c_res8 r_x8 c_x8
          clear r_own8 c_own8
          clear f_d8
          clear g9
          refine wpAnyH_done (by kernel_rfl) ?_ _
          clear hHeld
          go_wp2
          go_roundw
          case rel => exact ⟨k + 1, ao9, L9, cap9, lo, _, by omega, by go_num, hlo, by omega, by omega, by omega, B9, r_own9, r_res9, f_d9⟩
          case measure => simp [intOf]; omega
    · have hlt2 : ¬ (k : Int) < (l.length : Int) := by omega
      have hke : k = l.length := by omega
      have HE : Hid (k = l.length) := hke
      clear hke
      go_wp2_with (first | (refine wpList_load_row rfl 34 _ rfl (g_own) rfl 34 (ec n (.slice ao L cap)) (0, 0) _ r_own3.out Tryz.underlying34 rfl (sizeE _ _) ?_) | (refine wpl_partG rfl 34 _ _ rfl (w.heap.size + 1) 0 (ec n (.slice ao L cap)) rfl rfl [.string ⟨#[]⟩, .int .i64 0, .int .i64 0, .int .i64 0, .string ⟨#[]⟩, .slice none 0 0] 34 r_res3.out (Nat.le_of_ble_eq_true rfl) (sizeE _ _) (oneE _ rfl) [.string n.path, .int .i64 n.a, .int .i64 n.b, .int .i64 n.c, .string n.pre, .slice ao L cap] rfl ?_))
      intro W4 r_res4 g4
      have f_d4 : Hid (Odt W4 lo hi9 (.slice ao L cap) (l.take k)) := Odt.gro f_d3.out g4 (fun k9 h9 => by injection h9 with h9; omega)
      have r_res4 : Hid (W4.heap[w.heap.size + 1]? = some (.cells #[.string n.path, .int .i64 n.a, .int .i64 n.b, .int .i64 n.c, .string n.pre, .slice ao L cap] 34 (0, 0))) := r_res4
      have z4 := g4.size
      have B4 : Hid (Below w.heap.size w W4) := belowGro B3.out g4 B3.out.size (fun k9 h9 => by injection h9 with h9; have := B3.out.size; omega)
      have r_own4 := Ke.s r_own3 g4
      have c_own4 := Ke.c r_own4
      have c_res4 := Ke.c r_res4
      clear r_own3 c_own3
      clear r_res3 c_res3
      clear f_d3
      go_wp2
      exact bodyPost_ret (v := .agg (ec n (.slice ao L cap))) (results_cell_row rfl _ _ (w.heap.size + 1) 34 _ (0, 0) _ rfl r_res4.out Tryz.underlying34 rfl (sizeE _ _)) rfl ⟨_, rfl, by have h9 := f_d4.out; rw [HE.out, List.take_length] at h9; exact Odt.wide h9 (by have := B2.out.size; omega), B4.out⟩

end Go.Proofs.YtlhmemnaiobgkaaGreatDoor.Fe
