/- Texts in one: Cln, Gs1, Gs3, RowSl, SeE. -/
import Derived.Test.YtlhmemnaiobgkaaPk27
import Derived.Test.YtlhmemnaiobgkaaPk8
import Derived.Test.YtlhmemnaiobgkaaPk12
import Derived.Test.YtlhmemnaiobgkaaPk1
import Derived.Test.YtlhmemnaiobgkaaPk19
import Derived.WalkKit
import Derived.Lib.Strings
import Derived.Lib.Walk
import Derived.Lib.BufferWrite
import Derived.Lib.UnsafeStr
import Derived.Lib.Hide
import Derived.Laws.MakeOwn
import Derived.Deep.DeepCutAuto
import Derived.OpenShut
/- The library's strings.Clone: a copy of a text. -/
namespace Go.Proofs.Ytlhmemnaiobgkaa.Cln
open Go.RowKit Go.Proofs.Ytlhmemnaiobgkaa.Mem Go.Proofs.Ytlhmemnaiobgkaa.Laws Go.Proofs.Ytlhmemnaiobgkaa.Bytes Go.Proofs.Ytlhmemnaiobgkaa.Sha
set_option linter.unusedVariables false
set_option linter.unusedSimpArgs false

set_option maxHeartbeats 4000000 in
set_option maxRecDepth 100000 in
theorem clone_lite (w : World) (s : ByteArray) (hlim : s.size ≤ 1000000000000) :
    Calls Try.prog 54 #[.string s] w fun e w' => e = .returned (.string s) ∧ Below w.heap.size w w' := by
  by_cases h0 : s.size = 0
  · have hs : s = ⟨#[]⟩ := by
      apply ByteArray.ext
      exact Array.eq_empty_of_size_eq_zero h0
    subst hs
    go_enter Try.func54, Try.ntmps54
    go_wp2
    go_ret
    exact ⟨rfl, Below.refl _ _⟩
  · obtain ⟨i0, hi, hz0, hz1, hz2⟩ := info_parts info5
    have hinfo : (Try.prog.info? 5).map (·.size) = some 1 := by rw [hi]; simp [hz1]
    have hco : Try.prog.cellsOf 5 = 1 := by simp [Program.cellsOf, hi, hz1]
    obtain ⟨M, hM⟩ : ∃ M, M = madeCells (Value.int .u8 0).cells (((s.size : Nat) : Int).toNat * i0.size) := ⟨_, rfl⟩
    have hMs : M.size = s.size := by rw [hM, size_madeCells, hz1]; simp
    have hmk : ∀ W : World, (Instr.makeSlice 22 (.int .i64 (s.size : Int)) (.int .i64 (s.size : Int))).run Try.prog W = .ok (.slice (some ⟨W.heap.size, 0, none⟩) s.size s.size) (W.alloc (.cells M 5)) := fun W => by
      have h := run_make (P := Try.prog) W 22 5 i0 (.int .u8 0) Try.underlying22 hi hz0 .i64 .i64 (s.size : Int) (s.size : Int) (by omega) (by omega) (by rw [hz2]; omega) (by omega)
      rw [← hM] at h
      simpa using h
    clear hM
    have hcp := Lib.run_copy_row_string (P := Try.prog) (w.alloc (.cells M 5)) 22 9 3 5 w.heap.size 0 s.size s.size s M 5 Try.underlying22 hinfo (heap_alloc_new w _) (Nat.le_refl _) (by omega)
    obtain ⟨Y, hY⟩ : ∃ Y, Y = (M.toList.take 0 ++ Lib.byteCells s.data.toList ++ M.toList.drop (0 + s.size)).toArray := ⟨_, rfl⟩
    rw [← hY] at hcp
    have hYl : Y.toList = Lib.byteCells s.data.toList := by
      rw [hY, List.toList_toArray, List.take_zero, List.nil_append, List.drop_of_length_le (by rw [Array.length_toList]; omega), List.append_nil]
    have hYs : Y.size = s.size := by rw [← Array.length_toList, hYl, Lib.byteCells_length, ← Lib.size_eq]
    have hgY : ((w.alloc (.cells M 5)).setRow w.heap.size Y).heap[w.heap.size]? = some (.cells Y 5 (0, 0)) := setRow_heap _ _ M _ 5 (0, 0) (heap_alloc_new w _)
    have hne : s.data.toList ≠ [] := fun e => h0 (by rw [Lib.size_eq, e]; rfl)
    have hUS := Lib.run_unsafeString_row (P := Try.prog) ((w.alloc (.cells M 5)).setRow w.heap.size Y) 88 3 9 5 Try.underlying88 hco w.heap.size Y.size (by unfold World.shape?; rw [hgY]) s.data.toList hne (by rw [← Lib.size_eq]; omega) (by rw [← Lib.size_eq]; omega)
      (fun j x hx => Lib.cells_of_row hgY Y.size j _ (by rw [List.take_of_length_le (by rw [Array.length_toList]; exact Nat.le_refl _), hYl]; simp [Lib.byteCells, hx]))
    rw [← Lib.size_eq] at hUS
    clear hY
    go_enter Try.func54, Try.ntmps54
    go_wp2
    go_ret
    have hb1 : Below w.heap.size w (w.alloc (.cells M 5)) := (Below.refl _ w).alloc (Nat.le_refl _) _
    have hb2 : Below w.heap.size (w.alloc (.cells M 5)) ((w.alloc (.cells M 5)).setRow w.heap.size Y) := ⟨rfl, rfl, rfl, by simp, fun k hk => setRow_other _ _ _ _ (by omega)⟩
    exact ⟨rfl, Lib.below_freeze (hb1.trans hb2) (p := ⟨w.heap.size, 0, none⟩) (Nat.le_refl _) _⟩

set_option maxRecDepth 100000 in
theorem clone_impl (w : World) (s : ByteArray) (hlim : s.size ≤ 1000000000000) :
    Calls Try.prog 38 #[.string s] w fun e w' => e = .returned (.string s) ∧ Below w.heap.size w w' := by
  have q := clone_lite w s hlim
  go_enter Try.func38, Try.ntmps38
  go_wp2_with (go_at_call 54; refine q.mono ?_; rintro e w' ⟨rfl, b1⟩)
  go_ret
  exact ⟨rfl, b1⟩

end Go.Proofs.Ytlhmemnaiobgkaa.Cln

/- Chapter 15, the landed code: copies that are owned; whether an entry has a name. -/
namespace Go.Proofs.Ytlhmemnaiobgkaa.Fe
open Go.RowKit Go.Proofs.Ytlhmemnaiobgkaa.Mem Go.Proofs.Ytlhmemnaiobgkaa.Laws Go.Proofs.Ytlhmemnaiobgkaa.Ver Go.Proofs.Ytlhmemnaiobgkaa.Ent
set_option linter.unusedVariables false
set_option linter.unusedSimpArgs false

/-- an append of records as one step of a region that draws -/
theorem step_appm {P : Program} (n : Nat) (hn0 : 0 < n) {w : World} {ops : Array Oper} {o : Oper} {a : Act} {K : Act → World → Prop} {Q : Exit → Act → World → Prop} {E : Prop}
    (hg : o.guard = none) (s x : Operand) (t : TypeId) (hop : o.op = Op.call { callee := Callee.builtin Builtin.append, args := #[s, x], argTypes := #[t, t] })
    (e : TypeId) (i : TypeInfo) (z : Value) (bytes : Nat) (ht : P.underlying t = some (.slice e)) (hi : P.info? e = some i) (hz : i.zero = some z) (hsize : i.size = n) (hby : i.bytes = bytes) (hzs : z.cells.size = n)
    (lo : Nat) (v : Value) (m : Nat) (cs : List Value) (hs : a.eval s = v) (hown : On n w lo w.heap.size e v m cs) (y : Value) (hx : a.eval x = y) (k : Nat) (news : List Value) (hsl : Sn n w y k news)
    (h1 : ∀ u ∈ news, u.oneCell' = true) (h63 : m + k ≤ maxLen) (hb : (m + k) * bytes ≤ 140737488355328) (hlo : lo ≤ w.heap.size)
    (hK : ∀ v' w', On n w' lo w'.heap.size e v' (m + k) (cs ++ news) → w.grownBy w' v.ownBlock → K (a.put o.dst v') w') : if Region.wanted o (yielded ops a.tmps) = true then Oper.wp P o a w K Q else E := by
  have hw : Region.wanted o (yielded ops a.tmps) = true := by simp [Region.wanted, hg]
  rw [if_pos hw]
  obtain ⟨hl, ao, cap, rfl, hc, hn, hr⟩ := hsl
  cases ao with
  | none =>
    have hcap := hn rfl
    have hk0 : k = 0 := by omega
    subst hk0
    have hnil : news = [] := List.eq_nil_of_length_eq_zero (by simpa using hl)
    subst hnil
    subst hcap
    have hrun := run_append_owned_none (P := P) (w := w) lo t o.type e i n ht hi v m cs hown.1
    unfold Oper.wp
    simp [execOp, hop, resolve, invoke, builtin, hs, hx, hrun, Result.andThen]
    exact hK v w (by simpa using hown) (World.grownBy.refl _ _)
  | some ad =>
    refine wp_append_own w s x t hop lo e i z n bytes ht hi hz hsize hby hzs hn0 v m cs hs hown.1 ad k cap news hx hl ?_ h1 h63 hb hlo ?_
    · intro j u hj
      have hlt : j < news.length := (List.getElem?_eq_some_iff.1 hj).1
      obtain ⟨b, off, he, hcell⟩ := hr (by
        rcases Nat.eq_zero_or_pos k with h0 | h0
        · subst h0; simp at hl; subst hl; simp at hlt
        · exact h0)
      obtain rfl := Option.some.inj he
      rw [Addr.add_lit, hcell j hlt, hj]
    · intro v' w' ho hgr _
      exact hK v' w' (On.of ho) hgr
theorem On.far {n m : Nat} {w : World} {lo hi g : Nat} {e : TypeId} {v : Value} {cs : List Value} (h : On n w lo hi e v m cs) (hg : g < lo ∨ hi ≤ g) : v.ownBlock ≠ some g := fun hv => by have := On.lt h hv; omega
theorem Od.empty (w : World) (lo hi : Nat) : Od w lo hi (.slice none 0 0) [] := On.nil 5 w lo hi _
theorem Sn.later9 {n m : Nat} {w w' : World} {v : Value} {cs : List Value} (h : Sn n w v m cs) (hb : Below w.heap.size w w') : Sn n w' v m cs := Sn.later h hb

theorem sizeV (n : Nd) : (Try.prog.info? 29).map (·.size) = some (vc n).size := by
  show _ = some 4
  kernel_rfl

set_option maxRecDepth 1000000 in
set_option maxHeartbeats 4000000 in
theorem ownv_impl (w : World) (n : Nd) (hp : n.pre.size ≤ 1000000000000) :
    Calls Try.prog 39 #[.agg #[.int .i64 n.a, .int .i64 n.b, .int .i64 n.c, .string n.pre]] w fun e w' => e = .returned (.agg #[.int .i64 n.a, .int .i64 n.b, .int .i64 n.c, .string n.pre]) ∧ Below w.heap.size w w' := by
  have B0 : Hid (Below w.heap.size w w) := Below.refl _ _
  obtain ⟨W1, HW1, b1, y1, hS1, r_v1, r_res1⟩ := Ke.l2 w #[.int .i64 n.a, .int .i64 n.b, .int .i64 n.c, .string n.pre] 29 #[.int .i64 0, .int .i64 0, .int .i64 0, .string ⟨#[]⟩] 29
  have z1 := b1.size
  have B1 := Ke.b B0 b1
  have c_v1 := Ke.c r_v1
  have c_res1 := Ke.c r_res1
  go_enter Try.func39, Try.ntmps39
  go_wp2_with fail
  rw [HW1.out]
  refine (Cln.clone_impl W1 n.pre hp).mono ?_
  rintro e W2 ⟨rfl, b2⟩
  have z2 := b2.size
  have B2 := Ke.b B1 b2
  have r_v2 := Ke.r r_v1 b2
  have r_res2 := Ke.r r_res1 b2
  have c_v2 := Ke.c r_v2
  have c_res2 := Ke.c r_res2
  clear r_v1 c_v1 r_res1 c_res1
  go_wp2_with (refine wpl_oneG rfl 9 _ _ rfl (w.heap.size) 3 (.string n.pre) rfl rfl [.int .i64 n.a, .int .i64 n.b, .int .i64 n.c, .string n.pre] 29 r_v2.out (Nat.le_of_ble_eq_true rfl) (by kernel_rfl) rfl [.int .i64 n.a, .int .i64 n.b, .int .i64 n.c, .string n.pre] rfl ?_)
  intro W3 r_v3 g3
  have r_v3 := Ke.h r_v3
  have z3 := g3.size
  have B3 : Hid (Below w.heap.size w W3) := belowGro B2.out g3 B2.out.size (fun k9 h9 => by injection h9 with h9; have := B2.out.size; omega)
  have r_res3 := Ke.s r_res2 g3
  have c_v3 := Ke.c r_v3
  have c_res3 := Ke.c r_res3
  clear r_res2 c_res2
  clear r_v2 c_v2
  clear g3
  go_wp2_with (first | (refine wpList_load_row rfl 29 _ rfl (w.heap.size) rfl 29 (vc n) (0, 0) _ r_v3.out Try.underlying29 rfl (sizeV n) ?_) | (refine wpl_partG rfl 29 _ _ rfl (w.heap.size + 1) 0 (vc n) rfl rfl [.int .i64 0, .int .i64 0, .int .i64 0, .string ⟨#[]⟩] 29 r_res3.out (Nat.le_of_ble_eq_true rfl) (sizeV n) (by simp [vc, Value.oneCell']) [.int .i64 n.a, .int .i64 n.b, .int .i64 n.c, .string n.pre] rfl ?_))
  intro W4 r_res4 g4
  have r_res4 := Ke.h r_res4
  have z4 := g4.size
  have B4 : Hid (Below w.heap.size w W4) := belowGro B3.out g4 B3.out.size (fun k9 h9 => by injection h9 with h9; have := B3.out.size; omega)
  have r_v4 := Ke.s r_v3 g4
  have c_v4 := Ke.c r_v4
  have c_res4 := Ke.c r_res4
  clear r_v3 c_v3
  clear r_res3 c_res3
  go_wp2
  exact bodyPost_ret (v := .agg #[.int .i64 n.a, .int .i64 n.b, .int .i64 n.c, .string n.pre]) (results_cell_row rfl _ _ (w.heap.size + 1) 29 _ (0, 0) _ rfl r_res4.out Try.underlying29 rfl (sizeV n)) rfl ⟨rfl, B4.out⟩

set_option maxRecDepth 1000000 in
set_option maxHeartbeats 4000000 in
theorem ownn_impl (w : World) (n : Nd) (hq : n.path.size ≤ 1000000000000) (hp : n.pre.size ≤ 1000000000000) :
    Calls Try.prog 40 #[.agg #[.string n.path, .int .i64 n.a, .int .i64 n.b, .int .i64 n.c, .string n.pre]] w fun e w' => e = .returned (.agg #[.string n.path, .int .i64 n.a, .int .i64 n.b, .int .i64 n.c, .string n.pre]) ∧ Below w.heap.size w w' := by
  have B0 : Hid (Below w.heap.size w w) := Below.refl _ _
  obtain ⟨W1, HW1, b1, y1, hS1, r_v1, r_res1⟩ := Ke.l2 w #[.string n.path, .int .i64 n.a, .int .i64 n.b, .int .i64 n.c, .string n.pre] 32 #[.string ⟨#[]⟩, .int .i64 0, .int .i64 0, .int .i64 0, .string ⟨#[]⟩] 32
  have z1 := b1.size
  have B1 := Ke.b B0 b1
  have c_v1 := Ke.c r_v1
  have c_res1 := Ke.c r_res1
  go_enter Try.func40, Try.ntmps40
  go_wp2_with fail
  rw [HW1.out]
  refine wp_region_held_drew (S := fun w' => (∀ j, w'.cell? ⟨w.heap.size, j, none⟩ = #[.string n.path, .int .i64 n.a, .int .i64 n.b, .int .i64 n.c, .string n.pre][j]?)) (by kernel_rfl) c_v1 (fun hHeld => ?_)
  obtain ⟨W2, HW2, b2⟩ : ∃ X, Hid (W1.drew = X) ∧ Below W1.heap.size W1 X := ⟨_, rfl, Below.drew (Below.refl _ _)⟩
  have HHW2 := HW2.out
  rw [HHW2] at hHeld ⊢
  clear HHW2
  have z2 := b2.size
  have B2 := Ke.b B1 b2
  have r_v2 := Ke.r r_v1 b2
  have r_res2 := Ke.r r_res1 b2
  have c_v2 := Ke.c r_v2
  have c_res2 := Ke.c r_res2
  clear r_v1 c_v1 r_res1 c_res1
  refine Ke.y 0 rfl (fun _ _ _ h => h) ?_
  try simp only [Act.put, pu1, pu2, pu3, pu4, pu5, pu6]
  refine Ke.y 1 rfl (fun _ _ _ h => h) ?_
  try simp only [Act.put, pu1, pu2, pu3, pu4, pu5, pu6]
  refine Ke.y 3 rfl (fun _ _ _ h => h) ?_
  try simp only [Act.put, pu1, pu2, pu3, pu4, pu5, pu6]
  refine Ke.y 4 rfl (fun _ _ _ h => h) ?_
  try simp only [Act.put, pu1, pu2, pu3, pu4, pu5, pu6]
  refine Ke.z 2 rfl (fun K hK => ?_)
  go_simp
  refine (Cln.clone_impl W2 n.path hq).mono ?_
  rintro e W3 ⟨rfl, b3⟩
  refine hK.out _ _ (Ke.k (W := W2) hHeld b3) (fun hHeld => ?_)
  clear hK K
  try simp only [Act.put, pu1, pu2, pu3, pu4, pu5, pu6]
  have z3 := b3.size
  have B3 := Ke.b B2 b3
  have r_v3 := Ke.r r_v2 b3
  have r_res3 := Ke.r r_res2 b3
  have c_v3 := Ke.c r_v3
  have c_res3 := Ke.c r_res3
  clear r_v2 c_v2 r_res2 c_res2
  refine Ke.z 5 rfl (fun K hK => ?_)
  go_simp
  refine (ownv_impl W3 n hp).mono ?_
  rintro e W4 ⟨rfl, b4⟩
  refine hK.out _ _ (Ke.k (W := W3) hHeld b4) (fun hHeld => ?_)
  clear hK K
  try simp only [Act.put, pu1, pu2, pu3, pu4, pu5, pu6]
  have z4 := b4.size
  have B4 := Ke.b B3 b4
  have r_v4 := Ke.r r_v3 b4
  have r_res4 := Ke.r r_res3 b4
  have c_v4 := Ke.c r_v4
  have c_res4 := Ke.c r_res4
  clear r_v3 c_v3 r_res3 c_res3
  refine Ke.y 6 rfl (fun _ _ _ h => h) ?_
  try simp only [Act.put, pu1, pu2, pu3, pu4, pu5, pu6]
  refine Ke.z 7 rfl (fun K hK => ?_)
  rw [if_pos (by rfl)]
  refine wp_partG 32 _ _ rfl (w.heap.size + 1) 0 (nc n) rfl rfl [.string ⟨#[]⟩, .int .i64 0, .int .i64 0, .int .i64 0, .string ⟨#[]⟩] 32 r_res4.out (Nat.le_of_ble_eq_true rfl) (sizeN n) (oneN n) [.string n.path, .int .i64 n.a, .int .i64 n.b, .int .i64 n.c, .string n.pre] rfl ?_
  intro W5 r_res5 g5
  refine hK.out _ _ (Ke.g hHeld g5 (by show some (w.heap.size + 1) ≠ some (w.heap.size); intro h9; injection h9 with h9; omega)) (fun hHeld => ?_)
  clear hK K
  try simp only [Act.put, pu1, pu2, pu3, pu4, pu5, pu6]
  have r_res5 : Hid (W5.heap[w.heap.size + 1]? = some (.cells #[.string n.path, .int .i64 n.a, .int .i64 n.b, .int .i64 n.c, .string n.pre] 32 (0, 0))) := r_res5
  have z5 := g5.size
  have B5 : Hid (Below w.heap.size w W5) := belowGro B4.out g5 B4.out.size (fun k9 h9 => by injection h9 with h9; have := B4.out.size; omega)
  have r_v5 := Ke.s r_v4 g5
  have c_v5 := Ke.c r_v5
  have c_res5 := Ke.c r_res5
  clear r_v4 c_v4
  clear r_res4 c_res4
  clear g5
  refine wpAnyH_done (by kernel_rfl) ?_ _
  clear hHeld
  go_wp2
  exact bodyPost_ret (v := .agg #[.string n.path, .int .i64 n.a, .int .i64 n.b, .int .i64 n.c, .string n.pre]) (results_cell_row rfl _ _ (w.heap.size + 1) 32 _ (0, 0) _ rfl r_res5.out Try.underlying32 rfl (sizeN n)) rfl ⟨rfl, B5.out⟩

set_option maxRecDepth 1000000 in
set_option maxHeartbeats 4000000 in
theorem isname_impl (w : World) (q x : Nd) (u : Value) :
    Calls Try.prog 26 #[.agg #[.string q.path, .int .i64 q.a, .int .i64 q.b, .int .i64 q.c, .string q.pre], .agg #[.string x.path, .int .i64 x.a, .int .i64 x.b, .int .i64 x.c, .string x.pre, u]] w fun e w' => e = .returned (.bool (isN q x)) ∧ Below w.heap.size w w' := by
  obtain ⟨P, hP⟩ : ∃ P, (x.path.toList == q.path.toList) = P := ⟨_, rfl⟩
  obtain ⟨V, hV⟩ : ∃ V, sameV x.a x.b x.c x.pre q.a q.b q.c q.pre = V := ⟨_, rfl⟩
  have HI : Hid (isN q x = (P && V)) := by show isN _ _ = _; unfold isN; rw [hP, hV]
  have ev : ∀ W, _ := fun W => eqlV W x.a x.b x.c x.pre q.a q.b q.c q.pre
  simp only [hV] at ev
  have gv : ∀ W op y z xs ys, _ := fun W op y z xs ys => grdV W op y z xs ys
  clear hV
  have B0 : Hid (Below w.heap.size w w) := Below.refl _ _
  obtain ⟨W1, HW1, b1, y1, hS1, r_q1, r_x1⟩ := Ke.l2 w #[.string q.path, .int .i64 q.a, .int .i64 q.b, .int .i64 q.c, .string q.pre] 32 #[.string x.path, .int .i64 x.a, .int .i64 x.b, .int .i64 x.c, .string x.pre, u] 38
  have z1 := b1.size
  have B1 := Ke.b B0 b1
  have c_q1 := Ke.c r_q1
  have c_x1 := Ke.c r_x1
  rw [HI.out]
  cases P <;> cases V
  · go_enter Try.func26, Try.ntmps26
    go_wp2
    (try rw [HW1.out])
    go_ret
    exact ⟨rfl, by first | exact B1.out | (rw [HW1.out]; exact B1.out)⟩
  · go_enter Try.func26, Try.ntmps26
    go_wp2
    (try rw [HW1.out])
    go_ret
    exact ⟨rfl, by first | exact B1.out | (rw [HW1.out]; exact B1.out)⟩
  · go_enter Try.func26, Try.ntmps26
    go_wp2
    (try rw [HW1.out])
    go_ret
    exact ⟨rfl, by first | exact B1.out | (rw [HW1.out]; exact B1.out)⟩
  · go_enter Try.func26, Try.ntmps26
    go_wp2
    (try rw [HW1.out])
    go_ret
    exact ⟨rfl, by first | exact B1.out | (rw [HW1.out]; exact B1.out)⟩

end Go.Proofs.Ytlhmemnaiobgkaa.Fe

/- Chapter 15, the landed code: an entry's copy. -/
namespace Go.Proofs.Ytlhmemnaiobgkaa.Fe
open Go.RowKit Go.Proofs.Ytlhmemnaiobgkaa.Mem Go.Proofs.Ytlhmemnaiobgkaa.Laws Go.Proofs.Ytlhmemnaiobgkaa.Ver Go.Proofs.Ytlhmemnaiobgkaa.Ent
set_option linter.unusedVariables false
set_option linter.unusedSimpArgs false

theorem Sn.one9 (w : World) (n : Nd) : Sn 5 (w.alloc (.cells (nc n) 32)) (.slice (some ⟨w.heap.size, 0, none⟩) 1 1) 1 (nc n).toList := Sn.one 5 w (nc n) _ rfl

set_option maxRecDepth 1000000 in
set_option maxHeartbeats 4000000 in
theorem owne_impl (w : World) (n : Nd) (u : Value) (l : List Nd) (h : Sd w u l) (hl : l.length ≤ 1000000000) (hq : n.path.size ≤ 1000000000000) (hp : n.pre.size ≤ 1000000000000) (hz : ∀ x ∈ l, x.path.size ≤ 1000000000000 ∧ x.pre.size ≤ 1000000000000) :
    Calls Try.prog 27 #[.agg #[.string n.path, .int .i64 n.a, .int .i64 n.b, .int .i64 n.c, .string n.pre, u]] w fun e w' => ∃ u', e = .returned (.agg #[.string n.path, .int .i64 n.a, .int .i64 n.b, .int .i64 n.c, .string n.pre, u']) ∧ Od w' w.heap.size w'.heap.size u' l ∧ Below w.heap.size w w' := by
  obtain ⟨i0, hi, hz0, hz1, hz2⟩ := info_parts infoN
  have HS : Hid (Sd w u l) := h
  have HZ : Hid (∀ x ∈ l, x.path.size ≤ 1000000000000 ∧ x.pre.size ≤ 1000000000000) := hz
  obtain ⟨_, au, cu, rfl, hcap, _, _⟩ := h
  clear hz
  have B0 : Hid (Below w.heap.size w w) := Below.refl _ _
  obtain ⟨W1, HW1, b1, y1, hS1, r_e1, r_res1⟩ := Ke.l2 w #[.string n.path, .int .i64 n.a, .int .i64 n.b, .int .i64 n.c, .string n.pre, .slice au l.length cu] 38 #[.string ⟨#[]⟩, .int .i64 0, .int .i64 0, .int .i64 0, .string ⟨#[]⟩, .slice none 0 0] 38
  have z1 := b1.size
  have B1 := Ke.b B0 b1
  have c_e1 := Ke.c r_e1
  have c_res1 := Ke.c r_res1
  go_enter Try.func27, Try.ntmps27
  go_upto_region 1 with fail
  rw [HW1.out]
  go_cut [3] (fun s3 wx => ∃ (g_own : Nat), s3 = (.pointer (some ⟨g_own, 0, none⟩)) ∧ Below w.heap.size w wx ∧ W1.heap.size ≤ wx.heap.size ∧ W1.heap.size ≤ g_own ∧ g_own < wx.heap.size ∧ wx.heap[g_own]? = some (.cells #[.string n.path, .int .i64 n.a, .int .i64 n.b, .int .i64 n.c, .string n.pre, .slice none 0 0] 38 (0, 0)) ∧ wx.heap[w.heap.size]? = some (.cells #[.string n.path, .int .i64 n.a, .int .i64 n.b, .int .i64 n.c, .string n.pre, .slice au l.length cu] 38 (0, 0)) ∧ wx.heap[w.heap.size + 1]? = some (.cells #[.string ⟨#[]⟩, .int .i64 0, .int .i64 0, .int .i64 0, .string ⟨#[]⟩, .slice none 0 0] 38 (0, 0)))
  case first =>
    refine wp_region_held_drew (S := fun w' => (∀ j, w'.cell? ⟨w.heap.size, j, none⟩ = #[.string n.path, .int .i64 n.a, .int .i64 n.b, .int .i64 n.c, .string n.pre, .slice au l.length cu][j]?)) (by kernel_rfl) c_e1 (fun hHeld => ?_)
    obtain ⟨W2, HW2, b2⟩ : ∃ X, Hid (W1.drew = X) ∧ Below W1.heap.size W1 X := ⟨_, rfl, Below.drew (Below.refl _ _)⟩
    have HHW2 := HW2.out
    rw [HHW2] at hHeld ⊢
    clear HHW2
    have z2 := b2.size
    have B2 := Ke.b B1 b2
    have r_e2 := Ke.r r_e1 b2
    have r_res2 := Ke.r r_res1 b2
    have c_e2 := Ke.c r_e2
    have c_res2 := Ke.c r_res2
    clear r_e1 c_e1 r_res1 c_res1
    refine Ke.y 0 rfl (fun _ _ _ h => h) ?_
    try simp only [Act.put, pu1, pu2, pu3, pu4, pu5, pu6]
    refine Ke.y 1 rfl (fun _ _ _ h => h) ?_
    try simp only [Act.put, pu1, pu2, pu3, pu4, pu5, pu6]
    refine Ke.y 3 rfl (fun _ _ _ h => h) ?_
    try simp only [Act.put, pu1, pu2, pu3, pu4, pu5, pu6]
    refine Ke.y 4 rfl (fun _ _ _ h => h) ?_
    try simp only [Act.put, pu1, pu2, pu3, pu4, pu5, pu6]
    refine wpAnyH_ready (rs := [2, 7]) (by kernel_rfl) (by simp) ?_
    refine AllReadyH.cons rfl (fun K hK => ?_) (AllReadyH.cons rfl (fun K hK => ?_) AllReadyH.nil)
    · go_simp
      refine (Cln.clone_impl W2 n.path hq).mono ?_
      rintro e W3 ⟨rfl, b3⟩
      refine hK.out _ _ (Ke.k (W := W2) hHeld b3) (fun hHeld => ?_)
      clear hK K
      try simp only [Act.put, pu1, pu2, pu3, pu4, pu5, pu6]
      have z3 := b3.size
      have B3 := Ke.b B2 b3
      have r_e3 := Ke.r r_e2 b3
      have r_res3 := Ke.r r_res2 b3
      have c_e3 := Ke.c r_e3
      have c_res3 := Ke.c r_res3
      clear r_e2 c_e2 r_res2 c_res2
      refine wpAnyH_ready (rs := [5, 7]) (by kernel_rfl) (by simp) ?_
      refine AllReadyH.cons rfl (fun K hK => ?_) (AllReadyH.cons rfl (fun K hK => ?_) AllReadyH.nil)
      · go_simp
        refine (ownv_impl W3 n hp).mono ?_
        rintro e W4 ⟨rfl, b4⟩
        refine hK.out _ _ (Ke.k (W := W3) hHeld b4) (fun hHeld => ?_)
        clear hK K
        try simp only [Act.put, pu1, pu2, pu3, pu4, pu5, pu6]
        have z4 := b4.size
        have B4 := Ke.b B3 b4
        have r_e4 := Ke.r r_e3 b4
        have r_res4 := Ke.r r_res3 b4
        have c_e4 := Ke.c r_e4
        have c_res4 := Ke.c r_res4
        clear r_e3 c_e3 r_res3 c_res3
        refine Ke.y 6 rfl (fun _ _ _ h => h) ?_
        try simp only [Act.put, pu1, pu2, pu3, pu4, pu5, pu6]
        refine Ke.z 7 rfl (fun K hK => ?_)
        go_simp
        refine hK.out _ _ (Ke.k (W := W4) hHeld ((Below.refl _ _).alloc (Nat.le_refl _) _)) (fun hHeld => ?_)
        clear hK K
        try simp only [Act.put, pu1, pu2, pu3, pu4, pu5, pu6]
        obtain ⟨W5, HW5, b5, y5, hS5, r_own5⟩ := Ke.l1 W4 #[.string ⟨#[]⟩, .int .i64 0, .int .i64 0, .int .i64 0, .string ⟨#[]⟩, .slice none 0 0] 38
        have HHW5 := HW5.out
        rw [HHW5] at hHeld ⊢
        clear HHW5
        have z5 := b5.size
        have B5 := Ke.b B4 b5
        have r_e5 := Ke.r r_e4 b5
        have r_res5 := Ke.r r_res4 b5
        have c_e5 := Ke.c r_e5
        have c_res5 := Ke.c r_res5
        have c_own5 := Ke.c r_own5
        clear r_e4 c_e4 r_res4 c_res4
        refine Ke.z 8 rfl (fun K hK => ?_)
        rw [if_pos (by rfl)]
        refine wp_partG 38 _ _ rfl (W4.heap.size) 0 (ec n (.slice none 0 0)) rfl rfl [.string ⟨#[]⟩, .int .i64 0, .int .i64 0, .int .i64 0, .string ⟨#[]⟩, .slice none 0 0] 38 r_own5.out (Nat.le_of_ble_eq_true rfl) (sizeE _ _) (oneE _ rfl) [.string n.path, .int .i64 n.a, .int .i64 n.b, .int .i64 n.c, .string n.pre, .slice none 0 0] rfl ?_
        intro W6 r_own6 g6
        refine hK.out _ _ (Ke.g hHeld g6 (by show some (W4.heap.size) ≠ some (w.heap.size); intro h9; injection h9 with h9; omega)) (fun hHeld => ?_)
        clear hK K
        try simp only [Act.put, pu1, pu2, pu3, pu4, pu5, pu6]
        have r_own6 : Hid (W6.heap[W4.heap.size]? = some (.cells #[.string n.path, .int .i64 n.a, .int .i64 n.b, .int .i64 n.c, .string n.pre, .slice none 0 0] 38 (0, 0))) := r_own6
        have z6 := g6.size
        have B6 : Hid (Below w.heap.size w W6) := belowGro B5.out g6 B5.out.size (fun k9 h9 => by injection h9 with h9; have := B5.out.size; omega)
        have r_e6 := Ke.s r_e5 g6
        have r_res6 := Ke.s r_res5 g6
        have c_e6 := Ke.c r_e6
        have c_res6 := Ke.c r_res6
        have c_own6 := Ke.c r_own6
        clear r_e5 c_e5 r_res5 c_res5
        clear r_own5 c_own5
        clear g6
        refine wpAnyH_done (by kernel_rfl) ?_ _
        clear hHeld
        go_wp2_with fail
        go_meet
        exact ⟨W4.heap.size, rfl, B6.out, by omega, by omega, (Array.getElem?_eq_some_iff.1 r_own6.out).1, r_own6.out, r_e6.out, r_res6.out⟩
      · go_simp
        refine hK.out _ _ (Ke.k (W := W3) hHeld ((Below.refl _ _).alloc (Nat.le_refl _) _)) (fun hHeld => ?_)
        clear hK K
        try simp only [Act.put, pu1, pu2, pu3, pu4, pu5, pu6]
        obtain ⟨W4, HW4, b4, y4, hS4, r_own4⟩ := Ke.l1 W3 #[.string ⟨#[]⟩, .int .i64 0, .int .i64 0, .int .i64 0, .string ⟨#[]⟩, .slice none 0 0] 38
        have HHW4 := HW4.out
        rw [HHW4] at hHeld ⊢
        clear HHW4
        have z4 := b4.size
        have B4 := Ke.b B3 b4
        have r_e4 := Ke.r r_e3 b4
        have r_res4 := Ke.r r_res3 b4
        have c_e4 := Ke.c r_e4
        have c_res4 := Ke.c r_res4
        have c_own4 := Ke.c r_own4
        clear r_e3 c_e3 r_res3 c_res3
        refine Ke.z 5 rfl (fun K hK => ?_)
        go_simp
        refine (ownv_impl W4 n hp).mono ?_
        rintro e W5 ⟨rfl, b5⟩
        refine hK.out _ _ (Ke.k (W := W4) hHeld b5) (fun hHeld => ?_)
        clear hK K
        try simp only [Act.put, pu1, pu2, pu3, pu4, pu5, pu6]
        have z5 := b5.size
        have B5 := Ke.b B4 b5
        have r_e5 := Ke.r r_e4 b5
        have r_res5 := Ke.r r_res4 b5
        have r_own5 := Ke.r r_own4 b5
        have c_e5 := Ke.c r_e5
        have c_res5 := Ke.c r_res5
        have c_own5 := Ke.c r_own5
        clear r_e4 c_e4 r_res4 c_res4 r_own4 c_own4
        refine Ke.y 6 rfl (fun _ _ _ h => h) ?_
        try simp only [Act.put, pu1, pu2, pu3, pu4, pu5, pu6]
        refine Ke.z 8 rfl (fun K hK => ?_)
        rw [if_pos (by rfl)]
        refine wp_partG 38 _ _ rfl (W3.heap.size) 0 (ec n (.slice none 0 0)) rfl rfl [.string ⟨#[]⟩, .int .i64 0, .int .i64 0, .int .i64 0, .string ⟨#[]⟩, .slice none 0 0] 38 r_own5.out (Nat.le_of_ble_eq_true rfl) (sizeE _ _) (oneE _ rfl) [.string n.path, .int .i64 n.a, .int .i64 n.b, .int .i64 n.c, .string n.pre, .slice none 0 0] rfl ?_
        intro W6 r_own6 g6
        refine hK.out _ _ (Ke.g hHeld g6 (by show some (W3.heap.size) ≠ some (w.heap.size); intro h9; injection h9 with h9; omega)) (fun hHeld => ?_)
        clear hK K
        try simp only [Act.put, pu1, pu2, pu3, pu4, pu5, pu6]
        have r_own6 : Hid (W6.heap[W3.heap.size]? = some (.cells #[.string n.path, .int .i64 n.a, .int .i64 n.b, .int .i64 n.c, .string n.pre, .slice none 0 0] 38 (0, 0))) := r_own6
        have z6 := g6.size
        have B6 : Hid (Below w.heap.size w W6) := belowGro B5.out g6 B5.out.size (fun k9 h9 => by injection h9 with h9; have := B5.out.size; omega)
        have r_e6 := Ke.s r_e5 g6
        have r_res6 := Ke.s r_res5 g6
        have c_e6 := Ke.c r_e6
        have c_res6 := Ke.c r_res6
        have c_own6 := Ke.c r_own6
        clear r_e5 c_e5 r_res5 c_res5
        clear r_own5 c_own5
        clear g6
        refine wpAnyH_done (by kernel_rfl) ?_ _
        clear hHeld
        go_wp2_with fail
        go_meet
        exact ⟨W3.heap.size, rfl, B6.out, by omega, by omega, (Array.getElem?_eq_some_iff.1 r_own6.out).1, r_own6.out, r_e6.out, r_res6.out⟩
    · go_simp
      refine hK.out _ _ (Ke.k (W := W2) hHeld ((Below.refl _ _).alloc (Nat.le_refl _) _)) (fun hHeld => ?_)
      clear hK K
      try simp only [Act.put, pu1, pu2, pu3, pu4, pu5, pu6]
      obtain ⟨W3, HW3, b3, y3, hS3, r_own3⟩ := Ke.l1 W2 #[.string ⟨#[]⟩, .int .i64 0, .int .i64 0, .int .i64 0, .string ⟨#[]⟩, .slice none 0 0] 38
      have HHW3 := HW3.out
      rw [HHW3] at hHeld ⊢
      clear HHW3
      have z3 := b3.size
      have B3 := Ke.b B2 b3
      have r_e3 := Ke.r r_e2 b3
      have r_res3 := Ke.r r_res2 b3
      have c_e3 := Ke.c r_e3
      have c_res3 := Ke.c r_res3
      have c_own3 := Ke.c r_own3
      clear r_e2 c_e2 r_res2 c_res2
      refine Ke.z 2 rfl (fun K hK => ?_)
      go_simp
      refine (Cln.clone_impl W3 n.path hq).mono ?_
      rintro e W4 ⟨rfl, b4⟩
      refine hK.out _ _ (Ke.k (W := W3) hHeld b4) (fun hHeld => ?_)
      clear hK K
      try simp only [Act.put, pu1, pu2, pu3, pu4, pu5, pu6]
      have z4 := b4.size
      have B4 := Ke.b B3 b4
      have r_e4 := Ke.r r_e3 b4
      have r_res4 := Ke.r r_res3 b4
      have r_own4 := Ke.r r_own3 b4
      have c_e4 := Ke.c r_e4
      have c_res4 := Ke.c r_res4
      have c_own4 := Ke.c r_own4
      clear r_e3 c_e3 r_res3 c_res3 r_own3 c_own3
      refine Ke.z 5 rfl (fun K hK => ?_)
      go_simp
      refine (ownv_impl W4 n hp).mono ?_
      rintro e W5 ⟨rfl, b5⟩
      refine hK.out _ _ (Ke.k (W := W4) hHeld b5) (fun hHeld => ?_)
      clear hK K
      try simp only [Act.put, pu1, pu2, pu3, pu4, pu5, pu6]
      have z5 := b5.size
      have B5 := Ke.b B4 b5
      have r_e5 := Ke.r r_e4 b5
      have r_res5 := Ke.r r_res4 b5
      have r_own5 := Ke.r r_own4 b5
      have c_e5 := Ke.c r_e5
      have c_res5 := Ke.c r_res5
      have c_own5 := Ke.c r_own5
      clear r_e4 c_e4 r_res4 c_res4 r_own4 c_own4
      refine Ke.y 6 rfl (fun _ _ _ h => h) ?_
      try simp only [Act.put, pu1, pu2, pu3, pu4, pu5, pu6]
      refine Ke.z 8 rfl (fun K hK => ?_)
      rw [if_pos (by rfl)]
      refine wp_partG 38 _ _ rfl (W2.heap.size) 0 (ec n (.slice none 0 0)) rfl rfl [.string ⟨#[]⟩, .int .i64 0, .int .i64 0, .int .i64 0, .string ⟨#[]⟩, .slice none 0 0] 38 r_own5.out (Nat.le_of_ble_eq_true rfl) (sizeE _ _) (oneE _ rfl) [.string n.path, .int .i64 n.a, .int .i64 n.b, .int .i64 n.c, .string n.pre, .slice none 0 0] rfl ?_
      intro W6 r_own6 g6
      refine hK.out _ _ (Ke.g hHeld g6 (by show some (W2.heap.size) ≠ some (w.heap.size); intro h9; injection h9 with h9; omega)) (fun hHeld => ?_)
      clear hK K
      try simp only [Act.put, pu1, pu2, pu3, pu4, pu5, pu6]
      have r_own6 : Hid (W6.heap[W2.heap.size]? = some (.cells #[.string n.path, .int .i64 n.a, .int .i64 n.b, .int .i64 n.c, .string n.pre, .slice none 0 0] 38 (0, 0))) := r_own6
      have z6 := g6.size
      have B6 : Hid (Below w.heap.size w W6) := belowGro B5.out g6 B5.out.size (fun k9 h9 => by injection h9 with h9; have := B5.out.size; omega)
      have r_e6 := Ke.s r_e5 g6
      have r_res6 := Ke.s r_res5 g6
      have c_e6 := Ke.c r_e6
      have c_res6 := Ke.c r_res6
      have c_own6 := Ke.c r_own6
      clear r_e5 c_e5 r_res5 c_res5
      clear r_own5 c_own5
      clear g6
      refine wpAnyH_done (by kernel_rfl) ?_ _
      clear hHeld
      go_wp2_with fail
      go_meet
      exact ⟨W2.heap.size, rfl, B6.out, by omega, by omega, (Array.getElem?_eq_some_iff.1 r_own6.out).1, r_own6.out, r_e6.out, r_res6.out⟩
  case rest =>
  obtain ⟨g_own, rfl, B2, z2, hg1_own, hg2_own, r_own2, r_e2, r_res2⟩ := hcut
  revert B2 z2 hg1_own hg2_own r_own2 r_e2 r_res2
  generalize wc = W2
  intro B2 z2 hg1_own hg2_own r_own2 r_e2 r_res2
  have B2 := Ke.h B2
  have r_own2 := Ke.h r_own2
  have r_e2 := Ke.h r_e2
  have r_res2 := Ke.h r_res2
  clear r_e1 c_e1 r_res1 c_res1
  have c_e2 := Ke.c r_e2
  have c_res2 := Ke.c r_res2
  have c_own2 := Ke.c r_own2
  go_wp2
  go_loopw [16] (fun iv wr => ∃ (k : Nat) (ao : Option Addr) (L cap lo hi : Nat), k ≤ l.length ∧ iv = .int .i64 (k : Int) ∧ W2.heap.size ≤ lo ∧ W2.heap.size ≤ wr.heap.size ∧ lo ≤ hi ∧ hi ≤ wr.heap.size ∧ Hid (Below w.heap.size w wr) ∧ Hid (wr.heap[g_own]? = some (.cells #[.string n.path, .int .i64 n.a, .int .i64 n.b, .int .i64 n.c, .string n.pre, .slice ao L cap] 38 (0, 0))) ∧ Hid (wr.heap[w.heap.size + 1]? = some (.cells #[.string ⟨#[]⟩, .int .i64 0, .int .i64 0, .int .i64 0, .string ⟨#[]⟩, .slice none 0 0] 38 (0, 0))) ∧ Hid (Odt wr lo hi (.slice ao L cap) (l.take k))) (fun iv _ => l.length - (intOf iv).toNat)
  case atStart => exact ⟨0, none, 0, 0, W2.heap.size, W2.heap.size, Nat.zero_le _, rfl, Nat.le_refl _, Nat.le_refl _, Nat.le_refl _, Nat.le_refl _, B2, r_own2, r_res2, ⟨by rw [List.take_zero]; exact Od.empty _ _ _, Nat.le_refl _⟩⟩
  case round =>
    obtain ⟨k, ao, L, cap, lo, hi9, hk, rfl, hlo, hwr, hlh, hhw, B3, r_own3, r_res3, f_d3⟩ := hrel
    obtain ⟨W3, hW3⟩ : ∃ X, X = wr := ⟨_, rfl⟩
    subst hW3
    clear r_own2 c_own2 r_res2 c_res2 r_e2 c_e2
    have c_own3 := Ke.c r_own3
    have c_res3 := Ke.c r_res3
    by_cases hlt : k < l.length
    · have hlt2 : (k : Int) < (l.length : Int) := by omega
      obtain ⟨x, hx⟩ : ∃ x, l[k]? = some x := ⟨l[k], by simp [hlt]⟩
      obtain ⟨b, off, cap9, he, _, m0, m1, m2, m3, m4⟩ := Sd.at (HS.out.later B3.out) hx
      simp only [Value.slice.injEq] at he
      obtain ⟨rfl, _, rfl⟩ := he
      have HX : Hid (l[k]? = some x) := hx
      obtain ⟨hx1, hx2⟩ := HZ.out x (List.mem_of_getElem? hx)
      have htk : (l.take k).length = k := by rw [List.length_take]; omega
      have HT : Hid ((l.take k).length = k) := htk
      clear hx htk
      obtain ⟨W4, HW4, b4, y4, hS4, r_x4⟩ := Ke.l1 W3 #[.string x.path, .int .i64 x.a, .int .i64 x.b, .int .i64 x.c, .string x.pre] 32
      have z4 := b4.size
      have B4 := Ke.b B3 b4
      have r_own4 := Ke.r r_own3 b4
      have r_res4 := Ke.r r_res3 b4
      have c_own4 := Ke.c r_own4
      have c_res4 := Ke.c r_res4
      have c_x4 := Ke.c r_x4
      clear r_own3 c_own3 r_res3 c_res3
      have f_d4 : Hid (Odt W4 lo hi9 (.slice ao L cap) (l.take k)) := Odt.later f_d3.out b4
      clear f_d3
      go_wp2_with fail
      rw [HW4.out]
      clear m0 m1 m2 m3 m4
      refine wp_region_held_drew (S := fun w' => (∀ j, w'.cell? ⟨W3.heap.size, j, none⟩ = #[.string x.path, .int .i64 x.a, .int .i64 x.b, .int .i64 x.c, .string x.pre][j]?)) (by kernel_rfl) c_x4 (fun hHeld => ?_)
      obtain ⟨W5, HW5, b5⟩ : ∃ X, Hid (W4.drew = X) ∧ Below W4.heap.size W4 X := ⟨_, rfl, Below.drew (Below.refl _ _)⟩
      have HHW5 := HW5.out
      rw [HHW5] at hHeld ⊢
      clear HHW5
      have z5 := b5.size
      have B5 := Ke.b B4 b5
      have r_own5 := Ke.r r_own4 b5
      have r_res5 := Ke.r r_res4 b5
      have r_x5 := Ke.r r_x4 b5
      have c_own5 := Ke.c r_own5
      have c_res5 := Ke.c r_res5
      have c_x5 := Ke.c r_x5
      clear r_own4 c_own4 r_res4 c_res4 r_x4 c_x4
      have f_d5 : Hid (Odt W5 lo hi9 (.slice ao L cap) (l.take k)) := Odt.later f_d4.out b5
      clear f_d4
      refine Ke.y 0 rfl (fun _ _ _ h => h) ?_
      try simp only [Act.put, pu1, pu2, pu3, pu4, pu5, pu6]
      refine Ke.y 2 rfl (fun _ _ _ h => h) ?_
      try simp only [Act.put, pu1, pu2, pu3, pu4, pu5, pu6]
      refine wpAnyH_ready (rs := [1, 3]) (by kernel_rfl) (by simp) ?_
      refine AllReadyH.cons rfl (fun K hK => ?_) (AllReadyH.cons rfl (fun K hK => ?_) AllReadyH.nil)
      · go_simp
        refine hK.out _ _ hHeld (fun hHeld => ?_)
        clear hK K
        try simp only [Act.put, pu1, pu2, pu3, pu4, pu5, pu6]
        refine Ke.z 3 rfl (fun K hK => ?_)
        go_simp
        refine (ownn_impl W5 x hx1 hx2).mono ?_
        rintro e W6 ⟨rfl, b6⟩
        refine hK.out _ _ (Ke.k (W := W5) hHeld b6) (fun hHeld => ?_)
        clear hK K
        try simp only [Act.put, pu1, pu2, pu3, pu4, pu5, pu6]
        have z6 := b6.size
        have B6 := Ke.b B5 b6
        have r_own6 := Ke.r r_own5 b6
        have r_res6 := Ke.r r_res5 b6
        have r_x6 := Ke.r r_x5 b6
        have c_own6 := Ke.c r_own6
        have c_res6 := Ke.c r_res6
        have c_x6 := Ke.c r_x6
        clear r_own5 c_own5 r_res5 c_res5 r_x5 c_x5
        have f_d6 : Hid (Odt W6 lo hi9 (.slice ao L cap) (l.take k)) := Odt.later f_d5.out b6
        clear f_d5
        refine Ke.z 4 rfl (fun K hK => ?_)
        go_simp
        refine hK.out _ _ (Ke.k (W := W6) hHeld ((Below.refl _ _).alloc (Nat.le_refl _) _)) (fun hHeld => ?_)
        clear hK K
        try simp only [Act.put, pu1, pu2, pu3, pu4, pu5, pu6]
        obtain ⟨W7, HW7, b7, ff7⟩ : ∃ X, Hid ((W6.alloc (.cells #[.string x.path, .int .i64 x.a, .int .i64 x.b, .int .i64 x.c, .string x.pre] 32)) = X) ∧ Below W6.heap.size W6 X ∧ Hid (Sn 5 X (.slice (some ⟨W6.heap.size, 0, none⟩) 1 1) 1 (nc x).toList) := ⟨_, rfl, ((Below.refl _ _).alloc (Nat.le_refl _) _), Sn.one9 W6 x⟩
        have HHW7 := HW7.out
        rw [HHW7] at hHeld ⊢
        clear HHW7
        have z7 := b7.size
        have B7 := Ke.b B6 b7
        have r_own7 := Ke.r r_own6 b7
        have r_res7 := Ke.r r_res6 b7
        have r_x7 := Ke.r r_x6 b7
        have c_own7 := Ke.c r_own7
        have c_res7 := Ke.c r_res7
        have c_x7 := Ke.c r_x7
        clear r_own6 c_own6 r_res6 c_res6 r_x6 c_x6
        have f_d7 : Hid (Odt W7 lo hi9 (.slice ao L cap) (l.take k)) := Odt.later f_d6.out b7
        clear f_d6
        have f_t7 : Hid (Sn 5 W7 (.slice (some ⟨W6.heap.size, 0, none⟩) 1 1) 1 (nc x).toList) := ff7.out
        clear ff7
        refine Ke.z 5 rfl (fun K hK => ?_)
        have k1 : (l.take k).length + 1 ≤ maxLen := by rw [HT.out]; unfold maxLen; omega
        have k2 : ((l.take k).length + 1) * 56 ≤ 140737488355328 := by rw [HT.out]; omega
        refine step_appm 5 (by omega) rfl (.tmp 21) (.tmp 24) 24 (by rfl) 32 i0 (.agg #[.string ⟨#[]⟩, .int .i64 0, .int .i64 0, .int .i64 0, .string ⟨#[]⟩]) 56 Try.underlying24 hi hz0 hz1 hz2 rfl lo _ (l.take k).length (nds (l.take k)) (by rfl) (Odt.wide f_d7.out (Nat.le_refl _)) _ (by rfl) 1 (nc x).toList f_t7.out (by intro u9 hu9; simp only [nc, List.mem_cons, List.not_mem_nil, or_false] at hu9; rcases hu9 with rfl | rfl | rfl | rfl | rfl <;> rfl) k1 k2 (by omega) ?_
        intro v9 W8 o9 g8
        refine hK.out _ _ (Ke.g hHeld g8 (On.far f_d7.out.1 (by omega))) (fun hHeld => ?_)
        clear hK K
        try simp only [Act.put, pu1, pu2, pu3, pu4, pu5, pu6]
        have f_d8 : Hid (Odt W8 lo W8.heap.size v9 (l.take (k + 1))) := ⟨by unfold Od; rw [take_snoc15 HX.out, nds_snoc, List.length_append]; exact o9, Nat.le_refl _⟩
        clear o9 k1 k2
        have z8 := g8.size
        have B8 : Hid (Below w.heap.size w W8) := belowGro B7.out g8 B7.out.size (fun k9 h9 => by have h8 := (On.lt f_d7.out.1 h9).1; have := B3.out.size; have := B2.out.size; omega)
        have r_own8 : Hid (W8.heap[g_own]? = some (.cells #[.string n.path, .int .i64 n.a, .int .i64 n.b, .int .i64 n.c, .string n.pre, .slice ao L cap] 38 (0, 0))) := rowGro r_own7.out g8 (On.neRow f_d7.out.1 r_own7.out (by decide))
        have r_res8 : Hid (W8.heap[w.heap.size + 1]? = some (.cells #[.string ⟨#[]⟩, .int .i64 0, .int .i64 0, .int .i64 0, .string ⟨#[]⟩, .slice none 0 0] 38 (0, 0))) := rowGro r_res7.out g8 (On.neRow f_d7.out.1 r_res7.out (by decide))
        have r_x8 : Hid (W8.heap[W3.heap.size]? = some (.cells #[.string x.path, .int .i64 x.a, .int .i64 x.b, .int .i64 x.c, .string x.pre] 32 (0, 0))) := rowGro r_x7.out g8 (On.far f_d7.out.1 (by omega))
        obtain ⟨ao9, L9, cap9, rfl⟩ : ∃ ao9 L9 cap9, v9 = .slice ao9 L9 cap9 := by obtain ⟨a9, c9, e9⟩ := Od.slice f_d8.out.1; exact ⟨a9, _, c9, e9⟩
        have c_own8 := Ke.c r_own8
        have c_res8 := Ke.c r_res8
        have c_x8 := Ke.c r_x8
        clear r_own7 c_own7 r_res7 c_res7 r_x7 c_x7
        clear f_d7 f_t7 g8
        refine Ke.y 6 rfl (fun _ _ _ h => h) ?_
        try simp only [Act.put, pu1, pu2, pu3, pu4, pu5, pu6]
        refine Ke.z 7 rfl (fun K hK => ?_)
        rw [if_pos (by rfl)]
        refine wp_oneG 24 _ _ rfl (g_own) 5 (.slice ao9 L9 cap9) rfl rfl [.string n.path, .int .i64 n.a, .int .i64 n.b, .int .i64 n.c, .string n.pre, .slice ao L cap] 38 r_own8.out (Nat.le_of_ble_eq_true rfl) (by kernel_rfl) rfl [.string n.path, .int .i64 n.a, .int .i64 n.b, .int .i64 n.c, .string n.pre, .slice ao9 L9 cap9] rfl ?_
        intro W9 r_own9 g9
        refine hK.out _ _ (Ke.g hHeld g9 (by show some (g_own) ≠ some (W3.heap.size); intro h9; injection h9 with h9; omega)) (fun hHeld => ?_)
        clear hK K
        try simp only [Act.put, pu1, pu2, pu3, pu4, pu5, pu6]
        have f_d9 : Hid (Odt W9 lo W8.heap.size (.slice ao9 L9 cap9) (l.take (k + 1))) := Odt.gro f_d8.out g9 (fun k9 h9 => by injection h9 with h9; omega)
        have r_own9 : Hid (W9.heap[g_own]? = some (.cells #[.string n.path, .int .i64 n.a, .int .i64 n.b, .int .i64 n.c, .string n.pre, .slice ao9 L9 cap9] 38 (0, 0))) := r_own9
        have z9 := g9.size
        have B9 : Hid (Below w.heap.size w W9) := belowGro B8.out g9 B8.out.size (fun k9 h9 => by injection h9 with h9; have := B8.out.size; omega)
        have r_res9 := Ke.s r_res8 g9
        have r_x9 := Ke.s r_x8 g9
        have c_own9 := Ke.c r_own9
        have c_res9 := Ke.c r_res9
        have c_x9 := Ke.c r_x9
        clear r_res8 c_res8 r_x8 c_x8
        clear r_own8 c_own8
        clear f_d8
        clear g9
        refine wpAnyH_done (by kernel_rfl) ?_ _
        clear hHeld
        go_wp2
        go_roundw
        case rel => exact ⟨k + 1, ao9, L9, cap9, lo, _, by omega, by go_num, hlo, by omega, by omega, by omega, B9, r_own9, r_res9, f_d9⟩
        case measure => simp [intOf]; omega
      · go_simp
        refine (ownn_impl W5 x hx1 hx2).mono ?_
        rintro e W6 ⟨rfl, b6⟩
        refine hK.out _ _ (Ke.k (W := W5) hHeld b6) (fun hHeld => ?_)
        clear hK K
        try simp only [Act.put, pu1, pu2, pu3, pu4, pu5, pu6]
        have z6 := b6.size
        have B6 := Ke.b B5 b6
        have r_own6 := Ke.r r_own5 b6
        have r_res6 := Ke.r r_res5 b6
        have r_x6 := Ke.r r_x5 b6
        have c_own6 := Ke.c r_own6
        have c_res6 := Ke.c r_res6
        have c_x6 := Ke.c r_x6
        clear r_own5 c_own5 r_res5 c_res5 r_x5 c_x5
        have f_d6 : Hid (Odt W6 lo hi9 (.slice ao L cap) (l.take k)) := Odt.later f_d5.out b6
        clear f_d5
        refine wpAnyH_ready (rs := [1, 4]) (by kernel_rfl) (by simp) ?_
        refine AllReadyH.cons rfl (fun K hK => ?_) (AllReadyH.cons rfl (fun K hK => ?_) AllReadyH.nil)
        · go_simp
          refine hK.out _ _ hHeld (fun hHeld => ?_)
          clear hK K
          try simp only [Act.put, pu1, pu2, pu3, pu4, pu5, pu6]
          refine Ke.z 4 rfl (fun K hK => ?_)
          go_simp
          refine hK.out _ _ (Ke.k (W := W6) hHeld ((Below.refl _ _).alloc (Nat.le_refl _) _)) (fun hHeld => ?_)
          clear hK K
          try simp only [Act.put, pu1, pu2, pu3, pu4, pu5, pu6]
          obtain ⟨W7, HW7, b7, ff7⟩ : ∃ X, Hid ((W6.alloc (.cells #[.string x.path, .int .i64 x.a, .int .i64 x.b, .int .i64 x.c, .string x.pre] 32)) = X) ∧ Below W6.heap.size W6 X ∧ Hid (Sn 5 X (.slice (some ⟨W6.heap.size, 0, none⟩) 1 1) 1 (nc x).toList) := ⟨_, rfl, ((Below.refl _ _).alloc (Nat.le_refl _) _), Sn.one9 W6 x⟩
          have HHW7 := HW7.out
          rw [HHW7] at hHeld ⊢
          clear HHW7
          have z7 := b7.size
          have B7 := Ke.b B6 b7
          have r_own7 := Ke.r r_own6 b7
          have r_res7 := Ke.r r_res6 b7
          have r_x7 := Ke.r r_x6 b7
          have c_own7 := Ke.c r_own7
          have c_res7 := Ke.c r_res7
          have c_x7 := Ke.c r_x7
          clear r_own6 c_own6 r_res6 c_res6 r_x6 c_x6
          have f_d7 : Hid (Odt W7 lo hi9 (.slice ao L cap) (l.take k)) := Odt.later f_d6.out b7
          clear f_d6
          have f_t7 : Hid (Sn 5 W7 (.slice (some ⟨W6.heap.size, 0, none⟩) 1 1) 1 (nc x).toList) := ff7.out
          clear ff7
          refine Ke.z 5 rfl (fun K hK => ?_)
          have k1 : (l.take k).length + 1 ≤ maxLen := by rw [HT.out]; unfold maxLen; omega
          have k2 : ((l.take k).length + 1) * 56 ≤ 140737488355328 := by rw [HT.out]; omega
          refine step_appm 5 (by omega) rfl (.tmp 21) (.tmp 24) 24 (by rfl) 32 i0 (.agg #[.string ⟨#[]⟩, .int .i64 0, .int .i64 0, .int .i64 0, .string ⟨#[]⟩]) 56 Try.underlying24 hi hz0 hz1 hz2 rfl lo _ (l.take k).length (nds (l.take k)) (by rfl) (Odt.wide f_d7.out (Nat.le_refl _)) _ (by rfl) 1 (nc x).toList f_t7.out (by intro u9 hu9; simp only [nc, List.mem_cons, List.not_mem_nil, or_false] at hu9; rcases hu9 with rfl | rfl | rfl | rfl | rfl <;> rfl) k1 k2 (by omega) ?_
          intro v9 W8 o9 g8
          refine hK.out _ _ (Ke.g hHeld g8 (On.far f_d7.out.1 (by omega))) (fun hHeld => ?_)
          clear hK K
          try simp only [Act.put, pu1, pu2, pu3, pu4, pu5, pu6]
          have f_d8 : Hid (Odt W8 lo W8.heap.size v9 (l.take (k + 1))) := ⟨by unfold Od; rw [take_snoc15 HX.out, nds_snoc, List.length_append]; exact o9, Nat.le_refl _⟩
          clear o9 k1 k2
          have z8 := g8.size
          have B8 : Hid (Below w.heap.size w W8) := belowGro B7.out g8 B7.out.size (fun k9 h9 => by have h8 := (On.lt f_d7.out.1 h9).1; have := B3.out.size; have := B2.out.size; omega)
          have r_own8 : Hid (W8.heap[g_own]? = some (.cells #[.string n.path, .int .i64 n.a, .int .i64 n.b, .int .i64 n.c, .string n.pre, .slice ao L cap] 38 (0, 0))) := rowGro r_own7.out g8 (On.neRow f_d7.out.1 r_own7.out (by decide))
          have r_res8 : Hid (W8.heap[w.heap.size + 1]? = some (.cells #[.string ⟨#[]⟩, .int .i64 0, .int .i64 0, .int .i64 0, .string ⟨#[]⟩, .slice none 0 0] 38 (0, 0))) := rowGro r_res7.out g8 (On.neRow f_d7.out.1 r_res7.out (by decide))
          have r_x8 : Hid (W8.heap[W3.heap.size]? = some (.cells #[.string x.path, .int .i64 x.a, .int .i64 x.b, .int .i64 x.c, .string x.pre] 32 (0, 0))) := rowGro r_x7.out g8 (On.far f_d7.out.1 (by omega))
          obtain ⟨ao9, L9, cap9, rfl⟩ : ∃ ao9 L9 cap9, v9 = .slice ao9 L9 cap9 := by obtain ⟨a9, c9, e9⟩ := Od.slice f_d8.out.1; exact ⟨a9, _, c9, e9⟩
          have c_own8 := Ke.c r_own8
          have c_res8 := Ke.c r_res8
          have c_x8 := Ke.c r_x8
          clear r_own7 c_own7 r_res7 c_res7 r_x7 c_x7
          clear f_d7 f_t7 g8
          refine Ke.y 6 rfl (fun _ _ _ h => h) ?_
          try simp only [Act.put, pu1, pu2, pu3, pu4, pu5, pu6]
          refine Ke.z 7 rfl (fun K hK => ?_)
          rw [if_pos (by rfl)]
          refine wp_oneG 24 _ _ rfl (g_own) 5 (.slice ao9 L9 cap9) rfl rfl [.string n.path, .int .i64 n.a, .int .i64 n.b, .int .i64 n.c, .string n.pre, .slice ao L cap] 38 r_own8.out (Nat.le_of_ble_eq_true rfl) (by kernel_rfl) rfl [.string n.path, .int .i64 n.a, .int .i64 n.b, .int .i64 n.c, .string n.pre, .slice ao9 L9 cap9] rfl ?_
          intro W9 r_own9 g9
          refine hK.out _ _ (Ke.g hHeld g9 (by show some (g_own) ≠ some (W3.heap.size); intro h9; injection h9 with h9; omega)) (fun hHeld => ?_)
          clear hK K
          try simp only [Act.put, pu1, pu2, pu3, pu4, pu5, pu6]
          have f_d9 : Hid (Odt W9 lo W8.heap.size (.slice ao9 L9 cap9) (l.take (k + 1))) := Odt.gro f_d8.out g9 (fun k9 h9 => by injection h9 with h9; omega)
          have r_own9 : Hid (W9.heap[g_own]? = some (.cells #[.string n.path, .int .i64 n.a, .int .i64 n.b, .int .i64 n.c, .string n.pre, .slice ao9 L9 cap9] 38 (0, 0))) := r_own9
          have z9 := g9.size
          have B9 : Hid (Below w.heap.size w W9) := belowGro B8.out g9 B8.out.size (fun k9 h9 => by injection h9 with h9; have := B8.out.size; omega)
          have r_res9 := Ke.s r_res8 g9
          have r_x9 := Ke.s r_x8 g9
          have c_own9 := Ke.c r_own9
          have c_res9 := Ke.c r_res9
          have c_x9 := Ke.c r_x9
          clear r_res8 c_res8 r_x8 c_x8
          clear r_own8 c_own8
          clear f_d8
          clear g9
          refine wpAnyH_done (by kernel_rfl) ?_ _
          clear hHeld
          go_wp2
          go_roundw
          case rel => exact ⟨k + 1, ao9, L9, cap9, lo, _, by omega, by go_num, hlo, by omega, by omega, by omega, B9, r_own9, r_res9, f_d9⟩
          case measure => simp [intOf]; omega
        · go_simp
          refine hK.out _ _ (Ke.k (W := W6) hHeld ((Below.refl _ _).alloc (Nat.le_refl _) _)) (fun hHeld => ?_)
          clear hK K
          try simp only [Act.put, pu1, pu2, pu3, pu4, pu5, pu6]
          obtain ⟨W7, HW7, b7, ff7⟩ : ∃ X, Hid ((W6.alloc (.cells #[.string x.path, .int .i64 x.a, .int .i64 x.b, .int .i64 x.c, .string x.pre] 32)) = X) ∧ Below W6.heap.size W6 X ∧ Hid (Sn 5 X (.slice (some ⟨W6.heap.size, 0, none⟩) 1 1) 1 (nc x).toList) := ⟨_, rfl, ((Below.refl _ _).alloc (Nat.le_refl _) _), Sn.one9 W6 x⟩
          have HHW7 := HW7.out
          rw [HHW7] at hHeld ⊢
          clear HHW7
          have z7 := b7.size
          have B7 := Ke.b B6 b7
          have r_own7 := Ke.r r_own6 b7
          have r_res7 := Ke.r r_res6 b7
          have r_x7 := Ke.r r_x6 b7
          have c_own7 := Ke.c r_own7
          have c_res7 := Ke.c r_res7
          have c_x7 := Ke.c r_x7
          clear r_own6 c_own6 r_res6 c_res6 r_x6 c_x6
          have f_d7 : Hid (Odt W7 lo hi9 (.slice ao L cap) (l.take k)) := Odt.later f_d6.out b7
          clear f_d6
          have f_t7 : Hid (Sn 5 W7 (.slice (some ⟨W6.heap.size, 0, none⟩) 1 1) 1 (nc x).toList) := ff7.out
          clear ff7
          refine Ke.z 1 rfl (fun K hK => ?_)
          go_simp
          refine hK.out _ _ hHeld (fun hHeld => ?_)
          clear hK K
          try simp only [Act.put, pu1, pu2, pu3, pu4, pu5, pu6]
          refine Ke.z 5 rfl (fun K hK => ?_)
          have k1 : (l.take k).length + 1 ≤ maxLen := by rw [HT.out]; unfold maxLen; omega
          have k2 : ((l.take k).length + 1) * 56 ≤ 140737488355328 := by rw [HT.out]; omega
          refine step_appm 5 (by omega) rfl (.tmp 21) (.tmp 24) 24 (by rfl) 32 i0 (.agg #[.string ⟨#[]⟩, .int .i64 0, .int .i64 0, .int .i64 0, .string ⟨#[]⟩]) 56 Try.underlying24 hi hz0 hz1 hz2 rfl lo _ (l.take k).length (nds (l.take k)) (by rfl) (Odt.wide f_d7.out (Nat.le_refl _)) _ (by rfl) 1 (nc x).toList f_t7.out (by intro u9 hu9; simp only [nc, List.mem_cons, List.not_mem_nil, or_false] at hu9; rcases hu9 with rfl | rfl | rfl | rfl | rfl <;> rfl) k1 k2 (by omega) ?_
          intro v9 W8 o9 g8
          refine hK.out _ _ (Ke.g hHeld g8 (On.far f_d7.out.1 (by omega))) (fun hHeld => ?_)
          clear hK K
          try simp only [Act.put, pu1, pu2, pu3, pu4, pu5, pu6]
          have f_d8 : Hid (Odt W8 lo W8.heap.size v9 (l.take (k + 1))) := ⟨by unfold Od; rw [take_snoc15 HX.out, nds_snoc, List.length_append]; exact o9, Nat.le_refl _⟩
          clear o9 k1 k2
          have z8 := g8.size
          have B8 : Hid (Below w.heap.size w W8) := belowGro B7.out g8 B7.out.size (fun k9 h9 => by have h8 := (On.lt f_d7.out.1 h9).1; have := B3.out.size; have := B2.out.size; omega)
          have r_own8 : Hid (W8.heap[g_own]? = some (.cells #[.string n.path, .int .i64 n.a, .int .i64 n.b, .int .i64 n.c, .string n.pre, .slice ao L cap] 38 (0, 0))) := rowGro r_own7.out g8 (On.neRow f_d7.out.1 r_own7.out (by decide))
          have r_res8 : Hid (W8.heap[w.heap.size + 1]? = some (.cells #[.string ⟨#[]⟩, .int .i64 0, .int .i64 0, .int .i64 0, .string ⟨#[]⟩, .slice none 0 0] 38 (0, 0))) := rowGro r_res7.out g8 (On.neRow f_d7.out.1 r_res7.out (by decide))
          have r_x8 : Hid (W8.heap[W3.heap.size]? = some (.cells #[.string x.path, .int .i64 x.a, .int .i64 x.b, .int .i64 x.c, .string x.pre] 32 (0, 0))) := rowGro r_x7.out g8 (On.far f_d7.out.1 (by omega))
          obtain ⟨ao9, L9, cap9, rfl⟩ : ∃ ao9 L9 cap9, v9 = .slice ao9 L9 cap9 := by obtain ⟨a9, c9, e9⟩ := Od.slice f_d8.out.1; exact ⟨a9, _, c9, e9⟩
          have c_own8 := Ke.c r_own8
          have c_res8 := Ke.c r_res8
          have c_x8 := Ke.c r_x8
          clear r_own7 c_own7 r_res7 c_res7 r_x7 c_x7
          clear f_d7 f_t7 g8
          refine Ke.y 6 rfl (fun _ _ _ h => h) ?_
          try simp only [Act.put, pu1, pu2, pu3, pu4, pu5, pu6]
          refine Ke.z 7 rfl (fun K hK => ?_)
          rw [if_pos (by rfl)]
          refine wp_oneG 24 _ _ rfl (g_own) 5 (.slice ao9 L9 cap9) rfl rfl [.string n.path, .int .i64 n.a, .int .i64 n.b, .int .i64 n.c, .string n.pre, .slice ao L cap] 38 r_own8.out (Nat.le_of_ble_eq_true rfl) (by kernel_rfl) rfl [.string n.path, .int .i64 n.a, .int .i64 n.b, .int .i64 n.c, .string n.pre, .slice ao9 L9 cap9] rfl ?_
          intro W9 r_own9 g9
          refine hK.out _ _ (Ke.g hHeld g9 (by show some (g_own) ≠ some (W3.heap.size); intro h9; injection h9 with h9; omega)) (fun hHeld => ?_)
          clear hK K
          try simp only [Act.put, pu1, pu2, pu3, pu4, pu5, pu6]
          have f_d9 : Hid (Odt W9 lo W8.heap.size (.slice ao9 L9 cap9) (l.take (k + 1))) := Odt.gro f_d8.out g9 (fun k9 h9 => by injection h9 with h9; omega)
          have r_own9 : Hid (W9.heap[g_own]? = some (.cells #[.string n.path, .int .i64 n.a, .int .i64 n.b, .int .i64 n.c, .string n.pre, .slice ao9 L9 cap9] 38 (0, 0))) := r_own9
          have z9 := g9.size
          have B9 : Hid (Below w.heap.size w W9) := belowGro B8.out g9 B8.out.size (fun k9 h9 => by injection h9 with h9; have := B8.out.size; omega)
          have r_res9 := Ke.s r_res8 g9
          have r_x9 := Ke.s r_x8 g9
          have c_own9 := Ke.c r_own9
          have c_res9 := Ke.c r_res9
          have c_x9 := Ke.c r_x9
          clear r_res8 c_res8 r_x8 c_x8
          clear r_own8 c_own8
          clear f_d8
          clear g9
          refine wpAnyH_done (by kernel_rfl) ?_ _
          clear hHeld
          go_wp2
          go_roundw
          case rel => exact ⟨k + 1, ao9, L9, cap9, lo, _, by omega, by go_num, hlo, by omega, by omega, by omega, B9, r_own9, r_res9, f_d9⟩
          case measure => simp [intOf]; omega
    · have hlt2 : ¬ (k : Int) < (l.length : Int) := by omega
      have hke : k = l.length := by omega
      have HE : Hid (k = l.length) := hke
      clear hke
      go_wp2_with (first | (refine wpList_load_row rfl 38 _ rfl (g_own) rfl 38 (ec n (.slice ao L cap)) (0, 0) _ r_own3.out Try.underlying38 rfl (sizeE _ _) ?_) | (refine wpl_partG rfl 38 _ _ rfl (w.heap.size + 1) 0 (ec n (.slice ao L cap)) rfl rfl [.string ⟨#[]⟩, .int .i64 0, .int .i64 0, .int .i64 0, .string ⟨#[]⟩, .slice none 0 0] 38 r_res3.out (Nat.le_of_ble_eq_true rfl) (sizeE _ _) (oneE _ rfl) [.string n.path, .int .i64 n.a, .int .i64 n.b, .int .i64 n.c, .string n.pre, .slice ao L cap] rfl ?_))
      intro W4 r_res4 g4
      have f_d4 : Hid (Odt W4 lo hi9 (.slice ao L cap) (l.take k)) := Odt.gro f_d3.out g4 (fun k9 h9 => by injection h9 with h9; omega)
      have r_res4 : Hid (W4.heap[w.heap.size + 1]? = some (.cells #[.string n.path, .int .i64 n.a, .int .i64 n.b, .int .i64 n.c, .string n.pre, .slice ao L cap] 38 (0, 0))) := r_res4
      have z4 := g4.size
      have B4 : Hid (Below w.heap.size w W4) := belowGro B3.out g4 B3.out.size (fun k9 h9 => by injection h9 with h9; have := B3.out.size; omega)
      have r_own4 := Ke.s r_own3 g4
      have c_own4 := Ke.c r_own4
      have c_res4 := Ke.c r_res4
      clear r_own3 c_own3
      clear r_res3 c_res3
      clear f_d3
      go_wp2
      exact bodyPost_ret (v := .agg (ec n (.slice ao L cap))) (results_cell_row rfl _ _ (w.heap.size + 1) 38 _ (0, 0) _ rfl r_res4.out Try.underlying38 rfl (sizeE _ _)) rfl ⟨_, rfl, by have h9 := f_d4.out; rw [HE.out, List.take_length] at h9; exact Odt.wide h9 (by have := B2.out.size; omega), B4.out⟩

end Go.Proofs.Ytlhmemnaiobgkaa.Fe

/- A slice of bytes that came in, as the laws' proofs are told of it, reads as a list of bytes. -/
namespace Go.Proofs.Ytlhmemnaiobgkaa.RowSl
open Go.RowKit Go.Proofs.Ytlhmemnaiobgkaa.Mem

theorem row_sl {w : World} {a : Option Addr} {len cap : Nat} {zs : List Int}
    (h : (a = none ∧ len = 0 ∧ cap = 0 ∧ zs = []) ∨ ∃ x, a = some x ∧ len ≤ cap ∧ cap ≤ maxLen ∧ zs.length = cap ∧ (∀ i, i < zs.length → w.cell? (x.add i) = some (.int .u8 (zs.getD i 0))) ∧ ∀ n ∈ zs, (Lit.int .u8 n).wf = true) :
    ∃ xs : List Int, Sl w (.slice a len cap) (bs xs) ∧ len = xs.length ∧ Byt xs := by
  rcases h with ⟨rfl, rfl, rfl, rfl⟩ | ⟨x, rfl, hl, hm, hz, hc, hw⟩
  · exact ⟨[], Sl.nil w, rfl, fun x hx => by cases hx⟩
  · have hlen : (zs.take len).length = len := by simp; omega
    refine ⟨zs.take len, ⟨some x, cap, by rw [bs_len, hlen], by rw [bs_len, hlen]; exact hl, fun h => (by cases h), fun hp => ?_⟩, hlen.symm, fun y hy => ?_⟩
    · rw [bs_len, hlen] at hp
      obtain ⟨b, off, rfl, hcell⟩ := ints_at hc (by omega)
      refine ⟨b, off, rfl, fun j hj => ?_⟩
      rw [bs_len, hlen] at hj
      rw [hcell j (by omega), bs_get, List.getElem?_take, if_pos hj]
      simp [show j < zs.length by omega]
    · have := hw y (List.mem_of_mem_take hy)
      simpa [Lit.wf, IntKind.min, IntKind.max, IntKind.signed, IntKind.bits] using this

theorem strs_at {w : World} {a : Addr} {zs : List ByteArray} (h : ∀ i, i < zs.length → w.cell? (a.add i) = some (.string (zs.getD i ByteArray.empty))) (hp : 0 < zs.length) :
    ∃ b off, a = ⟨b, off, none⟩ ∧ ∀ j, j < zs.length → w.cell? ⟨b, off + j, none⟩ = some (.string (zs.getD j ByteArray.empty)) := by
  obtain ⟨b, off, spot⟩ := a
  have hspot : spot = none := by simpa [Addr.add] using World.cell?_spot (h 0 hp)
  subst hspot
  exact ⟨b, off, rfl, fun j hj => by rw [← Go.WideShapes.add_plain]; exact h j hj⟩

theorem row_str {w : World} {x : Addr} {len cap : Nat} {zs : List ByteArray} (hl : len ≤ cap) (hm : cap ≤ maxLen) (hz : zs.length = cap)
    (hc : ∀ i, i < zs.length → w.cell? (x.add i) = some (.string (zs.getD i ByteArray.empty))) (hw : ∀ s ∈ zs, s.size ≤ maxLen) :
    ∃ l : List ByteArray, Sl w (.slice (some x) len cap) (ss l) ∧ (∀ s ∈ l, s.size ≤ maxLen) ∧ l.length ≤ maxLen := by
  have hlen : (zs.take len).length = len := by simp; omega
  refine ⟨zs.take len, ⟨some x, cap, by rw [ss_len, hlen], by rw [ss_len, hlen]; exact hl, fun h => (by cases h), fun hp => ?_⟩, fun s hs => hw s (List.mem_of_mem_take hs), by rw [hlen]; exact Nat.le_trans hl hm⟩
  rw [ss_len, hlen] at hp
  obtain ⟨b, off, rfl, hcell⟩ := strs_at hc (by omega)
  refine ⟨b, off, rfl, fun j hj => ?_⟩
  rw [ss_len, hlen] at hj
  rw [hcell j (by omega), ss_get, List.getElem?_take, if_pos hj]
  simp [show j < zs.length by omega]

theorem i64_bd {n : Int} (h : (Lit.int .i64 n).wf = true) : -9223372036854775808 ≤ n ∧ n ≤ 9223372036854775807 := by
  simpa [Lit.wf, IntKind.min, IntKind.max, IntKind.signed, IntKind.bits] using h

end Go.Proofs.Ytlhmemnaiobgkaa.RowSl

/- Chapter 16, draws: needs in order. -/
namespace Go.Proofs.Ytlhmemnaiobgkaa.Se
open Go.RowKit Go.Proofs.Ytlhmemnaiobgkaa.Mem Go.Proofs.Ytlhmemnaiobgkaa.Laws Go.Proofs.Ytlhmemnaiobgkaa.Bytes Go.Proofs.Ytlhmemnaiobgkaa.Ver Go.Proofs.Ytlhmemnaiobgkaa.Ent Go.Proofs.Ytlhmemnaiobgkaa.Fe Go.Proofs.Ytlhmemnaiobgkaa.Draw
set_option linter.unusedVariables false
set_option linter.unusedSimpArgs false

/-- drawn needs in order -/
structure Dns (R : List Nd) : Prop where
  up : Up R
  all : ∀ n ∈ R, Dq n
theorem Dns.nil : Dns [] := ⟨List.Pairwise.nil, fun n hn => (List.not_mem_nil hn).elim⟩
theorem Dns.ins {R : List Nd} (h : Dns R) {n : Nd} (hn : Dq n) : Dns (insN R n) := ⟨h.up.ins _, Dq.ins h.all hn⟩

set_option maxRecDepth 1000000 in
set_option maxHeartbeats 8000000 in
theorem needs16_any (W0 w : World) (g : Nat) (vb : Value) (xs : List Int) (hs : Sl W0 vb (bs xs)) (hby : Byt xs) (hx : xs.length ≤ 140737488355328) (hB : Below W0.heap.size W0 w) (hg : W0.heap.size ≤ g) (hcu : Cur w g vb xs.length) :
    Calls Try.prog 15 #[.pointer (some ⟨g, 0, none⟩)] w fun e w' => ∃ (v' : Value) (R : List Nd), e = .returned v' ∧ R.length ≤ 3 ∧ Dns R ∧ Od w' w.heap.size w'.heap.size v' R ∧ Drawn W0 w g vb xs w' := by
  have HSW : Hid (Sl W0 vb (bs xs)) := hs
  have hgw := hcu.lt
  clear hs
  have B0 : Hid (Apart g (g + 1) w w) := Apart.refl _ _ _
  have cu0 : Hid (Cur w (g) vb xs.length) := hcu
  have bw0 : Hid (Below W0.heap.size W0 w) := hB
  go_enter Try.func15, Try.ntmps15
  obtain ⟨W1, HW1, b1, f_d1⟩ : ∃ X, Hid (w.alloc (.cells #[] 32) = X) ∧ Below w.heap.size w X ∧ Hid (Odt X w.heap.size X.heap.size (.slice (some ⟨w.heap.size, 0, none⟩) 0 0) []) := ⟨_, rfl, (Below.refl _ _).alloc (Nat.le_refl _) _, ⟨On.lit 5 w w.heap.size 32 (Nat.le_refl _), Nat.le_refl _⟩⟩
  have z1 := b1.size
  have B1 := Kd.B B0 b1
  have cu1 := Kd.c cu0 b1
  have bw1 := Ke.b bw0 b1
  clear cu0 bw0
  clear b1
  go_wp2_with fail
  rw [HW1.out]
  refine (below_any W0 W1 g vb xs 4 (by omega) (by omega) HSW.out hby hx bw1.out hg cu1.out).mono ?_
  rintro e W2 ⟨y, rfl, hy0, hy1, d2⟩
  have z2 := d2.apart.size
  have B2 := Kd.D B1 d2
  have cu2 := Kd.e d2
  have bw2 := Kd.f d2
  have f_d2 : Hid (Odt W2 w.heap.size W1.heap.size (.slice (some ⟨w.heap.size, 0, none⟩) 0 0) []) := Odt.drawn f_d1.out d2 (by omega)
  clear cu1 bw1 d2 f_d1
  obtain ⟨j0, hj0, hj2⟩ : ∃ j : Nat, y = (j : Int) ∧ j ≤ 3 := ⟨y.toNat, by omega, by omega⟩
  subst hj0
  clear hy0 hy1
  go_wp2
  go_loopw [3, 4] (fun rv iv wr => ∃ (j : Nat) (R : List Nd) (a8 : Option Addr) (L8 c8 lo8 hi8 : Nat), rv = .slice a8 L8 c8 ∧ iv = .int .i64 (j : Int) ∧ R.length + j ≤ 3 ∧ w.heap.size ≤ lo8 ∧ lo8 ≤ hi8 ∧ hi8 ≤ wr.heap.size ∧ w.heap.size ≤ wr.heap.size ∧ Hid (Dns R) ∧ Hid (Odt wr lo8 hi8 (.slice a8 L8 c8) R) ∧ Hid (Apart g (g + 1) w wr) ∧ Hid (Cur wr (g) vb xs.length) ∧ Hid (Below W0.heap.size W0 wr)) (fun _ iv _ => (intOf iv).toNat)
  case atStart => exact ⟨j0, [], some ⟨w.heap.size, 0, none⟩, 0, 0, w.heap.size, W1.heap.size, rfl, rfl, by simp; omega, Nat.le_refl _, by omega, by omega, by omega, Dns.nil, f_d2, B2, cu2, bw2⟩
  case round =>
    obtain ⟨j, R, a8, L8, c8, lo8, hi8, rfl, rfl, hRj, hlo8, hlh8, hhi8, hwW, HWN, f_d3, B3, cu3, bw3⟩ := hrel
    obtain ⟨W3, hW3⟩ : ∃ X, X = wr := ⟨_, rfl⟩
    subst hW3
    clear f_d2 cu2 bw2
    by_cases hj0 : j = 0
    · subst hj0
      go_wp2
      go_ret
      exact ⟨_, R, rfl, by omega, HWN.out, On.mono f_d3.out.1 hlo8 f_d3.out.2, ⟨cu3.out, B3.out, bw3.out⟩⟩
    · obtain ⟨i2, rfl⟩ : ∃ i2, j = i2 + 1 := ⟨j - 1, by omega⟩
      have d0 : (0 : Int) < ((i2 + 1 : Nat) : Int) := by omega
      have wj : IntKind.i64.wrap (((i2 + 1 : Nat) : Int) - 1) = (i2 : Int) := by rw [IntKind.wrap_i64]; omega
      clear hj0
      go_wp2_with fail
      refine (need_any W0 W3 g vb xs HSW.out hby hx bw3.out hg cu3.out).mono ?_
      rintro e W4 ⟨n, rfl, hn0, d4⟩
      have z4 := d4.apart.size
      have B4 := Kd.D B3 d4
      have cu4 := Kd.e d4
      have bw4 := Kd.f d4
      have f_d4 : Hid (Odt W4 lo8 hi8 (.slice a8 L8 c8) R) := Odt.drawn f_d3.out d4 (by omega)
      clear cu3 bw3 d4 f_d3
      go_wp2_with fail
      refine (put_any W4 _ R n f_d4.out.1.sd (by omega)).mono ?_
      rintro e W5 ⟨v9, rfl, od9, b5⟩
      have z5 := b5.size
      have B5 := Kd.B B4 b5
      have f_d5 : Hid (Odt W5 lo8 hi8 (.slice a8 L8 c8) R) := Odt.later f_d4.out b5
      clear f_d4
      have cu5 := Kd.c cu4 b5
      have bw5 := Ke.b bw4 b5
      clear cu4 bw4
      obtain ⟨a9, L9, c9, rfl⟩ : ∃ a9 L9 c9, v9 = .slice a9 L9 c9 := by obtain ⟨a9, c9, e9⟩ := Od.slice od9; exact ⟨a9, _, c9, e9⟩
      clear f_d5
      have f_d5 : Hid (Odt W5 W4.heap.size W5.heap.size (.slice a9 L9 c9) (insN R n)) := ⟨od9, Nat.le_refl _⟩
      clear od9
      have HWN2 : Hid (Dns (insN R n)) := HWN.out.ins hn0
      have hRk2 := ins_grow R n
      go_wp2
      go_roundw
      case rel => exact ⟨i2, insN R n, a9, L9, c9, W4.heap.size, W5.heap.size, rfl, by go_num, by omega, by omega, by omega, by omega, by omega, HWN2, f_d5, B5, cu5, bw5⟩
      case measure => (simp [intOf]; try omega)

end Go.Proofs.Ytlhmemnaiobgkaa.Se
