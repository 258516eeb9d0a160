/- Texts in one: Rcv, Rcv2, KpE. -/
import Derived.Test.YtfpaichdkddglaaDoorPk10
import Derived.Test.YtfpaichdkddglaaDoorPk5
import Derived.Test.YtfpaichdkddglaaDoorPk11
import Derived.Test.YtfpaichdkddglaaDoorPk14
import Derived.Test.YtfpaichdkddglaaDoorPk25
import Derived.Defers
import Derived.Recover
import Derived.WalkLawsBesides
/- A deferred function that recovers: rehearsed at a trial text. -/
namespace Go.Proofs.YtfpaichdkddglaaDoor.Rcv
open Go.RowKit Go.Proofs.YtfpaichdkddglaaDoor.Mem Go.Proofs.YtfpaichdkddglaaDoor.Laws Go.Proofs.YtfpaichdkddglaaDoor.He
set_option linter.unusedVariables false
set_option linter.unusedSimpArgs false

set_option maxRecDepth 1000000 in
set_option maxHeartbeats 2000000 in
theorem catch_idle (w : World) (p0 p1 p2 p3 p4 : Value) :
    CallsD Tryd.prog 39 #[p0, p1, p2, p3, p4] .returning w fun e u' w' => e = .returned (.tuple #[]) ∧ u' = .returning ∧ w' = w := by
  refine callsD_of_wpS Tryd.func39 rfl fun c₀ cs hu => ?_
  apply wpS_seq
  apply wpS_region
  simp [wpOpsS, go_sem, recoverD, hu, Tryd.ntmps39, Exit.thenS]
  refine wpS_cond (t := false) (by simp [Act.eval, Array.replicate]) ?_
  simp only [Bool.false_eq_true, if_false]
  refine wpS_of_wp (wp_skip ?_)
  cases c₀
  simp_all [bodyPostS, results, Tryd.results39]

set_option maxRecDepth 1000000 in
set_option maxHeartbeats 2000000 in
theorem catch_panicking (w : World) (g : Nat) (a : Int) (h : Hd) (v2 : Value) (n : Int) (b : Bool) (u : TypeId) (pv : Value) (older : List PanicEntry)
    (r0 : w.heap[g]? = some (.cells #[.int .i64 a] 3 (0, 0))) (r1 : w.heap[g + 1]? = some (.cells #[.int .i64 h.n, .string h.r] 25 (0, 0))) (r2 : w.heap[g + 2]? = some (.cells #[v2] 26 (0, 0))) (r3 : w.heap[g + 3]? = some (.cells #[.int .i64 n] 3 (0, 0))) (r4 : w.heap[g + 4]? = some (.cells #[.bool b] 4 (0, 0))) :
    CallsD Tryd.prog 39 #[.pointer (some ⟨g, 0, none⟩), .pointer (some ⟨g + 1, 0, none⟩), .pointer (some ⟨g + 2, 0, none⟩), .pointer (some ⟨g + 3, 0, none⟩), .pointer (some ⟨g + 4, 0, none⟩)] (.panicking ({ v := .iface u pv, recovered := false } :: older)) w fun e u' w' =>
      e = .returned (.tuple #[]) ∧ u' = .panicking ({ v := .iface u pv, recovered := true } :: older) ∧ w'.heap[g + 1]? = some (.cells #[.int .i64 0, .string ⟨#[]⟩] 25 (0, 0)) ∧ w'.heap[g + 2]? = some (.cells #[.slice none 0 0] 26 (0, 0)) ∧ w'.heap[g + 3]? = some (.cells #[.int .i64 a] 3 (0, 0)) ∧ w'.heap[g + 4]? = some (.cells #[.bool false] 4 (0, 0)) ∧ Below g w w' := by
  refine callsD_of_wpS Tryd.func39 rfl fun c₀ cs hu => ?_
  apply wpS_seq
  apply wpS_region
  simp [wpOpsS, go_sem, recoverD, hu, Tryd.ntmps39, Exit.thenS]
  refine wpS_cond (t := true) (by simp [Act.eval, Array.replicate]) ?_
  simp only [if_true]
  refine wpS_of_wp ?_
  have c0 : w.cell? ⟨g, 0, none⟩ = some (.int .i64 a) := row_at r0 0
  have R0 : Hid _ := r0
  have R1 : Hid _ := r1
  have R2 : Hid _ := r2
  have R3 : Hid _ := r3
  have R4 : Hid _ := r4
  have hgs : g + 4 < w.heap.size := (Array.getElem?_eq_some_iff.1 r4).1
  clear r0 r1 r2 r3 r4
  go_wp2_with (refine wpl_partG rfl 25 _ _ rfl (g + 1) 0 (hc hd0) rfl rfl [.int .i64 h.n, .string h.r] 25 R1.out (Nat.le_of_ble_eq_true rfl) (sizeH hd0) (oneH hd0) [.int .i64 0, .string ⟨#[]⟩] rfl ?_)
  intro W1 s1 t1
  have R1 : Hid (W1.heap[g + 1]? = some (.cells #[.int .i64 0, .string ⟨#[]⟩] 25 (0, 0))) := s1
  have R2 : Hid (W1.heap[g + 2]? = some (.cells #[v2] 26 (0, 0))) := rowGro R2.out t1 (fun h9 => by injection h9 with h9; omega)
  have R3 : Hid (W1.heap[g + 3]? = some (.cells #[.int .i64 n] 3 (0, 0))) := rowGro R3.out t1 (fun h9 => by injection h9 with h9; omega)
  have R4 : Hid (W1.heap[g + 4]? = some (.cells #[.bool b] 4 (0, 0))) := rowGro R4.out t1 (fun h9 => by injection h9 with h9; omega)
  have B1 : Hid (Below g w W1) := belowGro (Below.refl g w) t1 (by have := (Below.refl g w).size; omega) (fun k9 h9 => by injection h9 with h9; omega)
  clear s1 t1
  go_wp2_with (refine wpl_oneG rfl 26 _ _ rfl (g + 2) 0 (.slice none 0 0) rfl rfl [v2] 26 R2.out (Nat.le_of_ble_eq_true rfl) (by kernel_rfl) rfl [.slice none 0 0] rfl ?_)
  intro W2 s2 t2
  have R1 : Hid (W2.heap[g + 1]? = some (.cells #[.int .i64 0, .string ⟨#[]⟩] 25 (0, 0))) := rowGro R1.out t2 (fun h9 => by injection h9 with h9; omega)
  have R2 : Hid (W2.heap[g + 2]? = some (.cells #[.slice none 0 0] 26 (0, 0))) := s2
  have R3 : Hid (W2.heap[g + 3]? = some (.cells #[.int .i64 n] 3 (0, 0))) := rowGro R3.out t2 (fun h9 => by injection h9 with h9; omega)
  have R4 : Hid (W2.heap[g + 4]? = some (.cells #[.bool b] 4 (0, 0))) := rowGro R4.out t2 (fun h9 => by injection h9 with h9; omega)
  have B2 : Hid (Below g w W2) := belowGro (B1.out) t2 (by have := (B1.out).size; omega) (fun k9 h9 => by injection h9 with h9; omega)
  clear s2 t2
  go_wp2_with (refine wpl_oneG rfl 3 _ _ rfl (g + 3) 0 (.int .i64 a) rfl rfl [.int .i64 n] 3 R3.out (Nat.le_of_ble_eq_true rfl) (by kernel_rfl) rfl [.int .i64 a] rfl ?_)
  intro W3 s3 t3
  have R1 : Hid (W3.heap[g + 1]? = some (.cells #[.int .i64 0, .string ⟨#[]⟩] 25 (0, 0))) := rowGro R1.out t3 (fun h9 => by injection h9 with h9; omega)
  have R2 : Hid (W3.heap[g + 2]? = some (.cells #[.slice none 0 0] 26 (0, 0))) := rowGro R2.out t3 (fun h9 => by injection h9 with h9; omega)
  have R3 : Hid (W3.heap[g + 3]? = some (.cells #[.int .i64 a] 3 (0, 0))) := s3
  have R4 : Hid (W3.heap[g + 4]? = some (.cells #[.bool b] 4 (0, 0))) := rowGro R4.out t3 (fun h9 => by injection h9 with h9; omega)
  have B3 : Hid (Below g w W3) := belowGro (B2.out) t3 (by have := (B2.out).size; omega) (fun k9 h9 => by injection h9 with h9; omega)
  clear s3 t3
  go_wp2_with (refine wpl_oneG rfl 4 _ _ rfl (g + 4) 0 (.bool false) rfl rfl [.bool b] 4 R4.out (Nat.le_of_ble_eq_true rfl) (by kernel_rfl) rfl [.bool false] rfl ?_)
  intro W4 s4 t4
  have R1 : Hid (W4.heap[g + 1]? = some (.cells #[.int .i64 0, .string ⟨#[]⟩] 25 (0, 0))) := rowGro R1.out t4 (fun h9 => by injection h9 with h9; omega)
  have R2 : Hid (W4.heap[g + 2]? = some (.cells #[.slice none 0 0] 26 (0, 0))) := rowGro R2.out t4 (fun h9 => by injection h9 with h9; omega)
  have R3 : Hid (W4.heap[g + 3]? = some (.cells #[.int .i64 a] 3 (0, 0))) := rowGro R3.out t4 (fun h9 => by injection h9 with h9; omega)
  have R4 : Hid (W4.heap[g + 4]? = some (.cells #[.bool false] 4 (0, 0))) := s4
  have B4 : Hid (Below g w W4) := belowGro (B3.out) t4 (by have := (B3.out).size; omega) (fun k9 h9 => by injection h9 with h9; omega)
  clear s4 t4
  go_wp2
  exact ⟨rfl, _, rfl, _, by simp [results, Tryd.results39], rfl, rfl, R1.out, R2.out, R3.out, R4.out, B4.out⟩

end Go.Proofs.YtfpaichdkddglaaDoor.Rcv

/- A function whose deferred closure recovers: rehearsed at a trial text, over a contract of what may panic. -/
namespace Go.Proofs.YtfpaichdkddglaaDoor.Rcv
open Go.RowKit Go.Proofs.YtfpaichdkddglaaDoor.Mem Go.Proofs.YtfpaichdkddglaaDoor.Laws Go.Proofs.YtfpaichdkddglaaDoor.Bytes Go.Proofs.YtfpaichdkddglaaDoor.He Go.Proofs.YtfpaichdkddglaaDoor.Sr
set_option linter.unusedVariables false
set_option linter.unusedSimpArgs false

theorem Leaves.congr {P : Program} {fn : Func} {R : Ending → World → Prop} {t1 t2 : Array Value} (e : results fn t1 = results fn t2) : ∀ (ds : List Deferred) (u : FrameMode) (w : World), Leaves P fn t1 R ds u w → Leaves P fn t2 R ds u w := by
  intro ds
  induction ds with
  | nil =>
    intro u w h
    cases u with
    | run => exact h
    | returning => simpa only [Leaves, e] using h
    | panicking c => exact h
  | cons d ds ih =>
    intro u w h
    obtain ⟨hr, fv, cap, f, args, ht, hi, hc⟩ := h
    refine ⟨hr, fv, cap, f, args, ht, hi, hc.mono ?_⟩
    intro e' u' w' hh
    cases e' with
    | returned v => exact ih _ _ hh
    | panicked c => exact ih _ _ hh
    | outgrown => exact hh
/-- aBool: whether a type is a struct or an array -/
def aggB : TypeDesc → Bool
  | .struct _ | .array _ _ => true
  | _ => false
theorem res_put {fn : Func} {p q u v : Tmp} {ty t2 t3 t4 : TypeId} (h : fn.results = #[.cell p ty, .cell q t2, .cell u t3, .cell v t4]) {i : Tmp} (hp : i ≠ p) (hq : i ≠ q) (hu : i ≠ u) (hv : i ≠ v) (t : Array Value) (x : Value) : results fn (t.setIfInBounds i x) = results fn t := by
  simp [results, h, Array.getElem?_setIfInBounds, hp, hq, hu, hv]
theorem panic_put {i : Tmp} {x : Value} {c : List PanicEntry} {a : Act} {w : World} {R : Ending → World → Prop} (h4 : i ≠ 4) (h5 : i ≠ 5) (h6 : i ≠ 6) (h7 : i ≠ 7) (h : bodyPostD Tryd.prog Tryd.f10 R (.panic c) (a.put (some i) x) w) : bodyPostD Tryd.prog Tryd.f10 R (.panic c) a w :=
  Leaves.congr (res_put rfl h4 h5 h6 h7 a.tmps x) _ _ _ h

theorem res_c4 {P : Program} {fn : Func} {p q u v : Tmp} {ty t2 t3 t4 : TypeId} (h : fn.results = #[.cell p ty, .cell q t2, .cell u t3, .cell v t4]) (tmps : Array Value) (w : World) (g1 g2 g3 g4 : Nat) (t : TypeId) (c1 : Array Value) (x2 x3 x4 : Value) (fr : Nat × Nat) (d d2 d3 d4 : TypeDesc)
    (hp : tmps.getD p undef = .pointer (some ⟨g1, 0, none⟩)) (hg1 : w.heap[g1]? = some (.cells c1 t fr)) (hu : P.underlying ty = some d) (hd : (match d with | .struct _ | .array _ _ => true | _ => false) = true) (hi1 : (P.info? ty).map (·.size) = some c1.size)
    (hq : tmps.getD q undef = .pointer (some ⟨g2, 0, none⟩)) (h2 : w.cell? ⟨g2, 0, none⟩ = some x2) (hu2 : P.underlying t2 = some d2) (hd2 : aggB d2 = false)
    (hr : tmps.getD u undef = .pointer (some ⟨g3, 0, none⟩)) (h3 : w.cell? ⟨g3, 0, none⟩ = some x3) (hu3 : P.underlying t3 = some d3) (hd3 : aggB d3 = false)
    (hs : tmps.getD v undef = .pointer (some ⟨g4, 0, none⟩)) (h4 : w.cell? ⟨g4, 0, none⟩ = some x4) (hu4 : P.underlying t4 = some d4) (hd4 : aggB d4 = false) :
    (results fn tmps).run P w = .ok (.tuple #[.agg c1, x2, x3, x4]) w := by
  have hp' : tmps[p]?.getD undef = .pointer (some ⟨g1, 0, none⟩) := by simpa using hp
  have hq' : tmps[q]?.getD undef = .pointer (some ⟨g2, 0, none⟩) := by simpa using hq
  have hr' : tmps[u]?.getD undef = .pointer (some ⟨g3, 0, none⟩) := by simpa using hr
  have hs' : tmps[v]?.getD undef = .pointer (some ⟨g4, 0, none⟩) := by simpa using hs
  have one : ∀ (ty : TypeId) (g : Nat) (x : Value) (d : TypeDesc), w.cell? ⟨g, 0, none⟩ = some x → P.underlying ty = some d → aggB d = false → (loadVar ty ⟨g, 0, none⟩).run P w = .ok x w := by
    intro ty g x d h1 h2 h3
    have hagg : (isAgg ty).run P w = .ok false w := by
      unfold isAgg
      rw [Sem.run_bind, run_underlying h2 w]
      cases d <;> simp_all [aggB]
    simp [loadVar, Sem.run_bind, hagg, go_sem, h1]
  simp [results, h, hp', hq', hr', hs', asAddr, run_loadVar_row w g1 t ty c1 fr d hg1 hu hd hi1, one t2 g2 x2 d2 h2 hu2 hd2, one t3 g3 x3 d3 h3 hu3 hd3, one t4 g4 x4 d4 h4 hu4 hd4]

end Go.Proofs.YtfpaichdkddglaaDoor.Rcv

/- Chapter 12, the landed code: a commit out of bytes: what gives up is caught at the face. -/
namespace Go.Proofs.YtfpaichdkddglaaDoor.Sr
open Go.RowKit Go.Proofs.YtfpaichdkddglaaDoor.Mem Go.Proofs.YtfpaichdkddglaaDoor.Laws Go.Proofs.YtfpaichdkddglaaDoor.Bytes Go.Proofs.YtfpaichdkddglaaDoor.Sha Go.Proofs.YtfpaichdkddglaaDoor.Tr Go.Proofs.YtfpaichdkddglaaDoor.He Go.Proofs.YtfpaichdkddglaaDoor.Lg Go.Proofs.YtfpaichdkddglaaDoor.Rcv
set_option linter.unusedVariables false
set_option linter.unusedSimpArgs false

set_option maxRecDepth 1000000 in
set_option maxHeartbeats 8000000 in
theorem getc_land (w : World) (v : Value) (xs : List Int) (at_ : Int) (hG : Glob w) (hN : NoC w) (hs : Sl w v (bs xs)) (hb : Byt xs) (hx : xs.length ≤ 1000000000000) (hlo : -9223372036854775808 ≤ at_) (hhi : at_ ≤ 9223372036854775807) :
    Calls Tryd.prog 10 #[v, .int .i64 at_] w fun e w' => GotC xs at_ w e w' := by
  have hmf : ∀ (fn : Fn) (first cap : Array Value) (w : World), (Instr.makeFunc fn first cap).run Tryd.prog w = .ok (.func fn first cap) w := fun _ _ _ _ => rfl
  have HS : Hid (Sl w v (bs xs)) := hs
  have HBY : Hid (Byt xs) := hb
  have HG : Hid (Glob w) := hG
  have HN : Hid (NoC w) := hN
  obtain ⟨ao0, cap0, rfl, hc0⟩ := hs.form
  unfold GotC
  obtain ⟨E, hE⟩ : ∃ E, getC xs at_ = E := ⟨_, rfl⟩
  have q1 : ∀ W v1, Glob W → NoC W → Sl W v1 (bs xs) → _ := fun W v1 g1 g2 h1 => cut_impl W v1 xs at_ g1 g2 h1 hb hx hlo hhi
  have q2 : ∀ (q m : Nat) W v1, NoC W → Sl W v1 (bs ((xs.drop q).take m)) → _ := fun q m W v1 g2 h1 => readb_impl W v1 ((xs.drop q).take m) g2 h1 (fun y hy => hb y (List.mem_of_mem_drop (List.mem_of_mem_take hy))) (by rw [List.length_take, List.length_drop]; omega)
  simp only [hE] at q1
  rw [hE]
  obtain ⟨h, x, p, ok⟩ := E
  simp only [bs_len] at *
  clear hs hE hG hN hb
  have B0 : Hid (Below w.heap.size w w) := Below.refl _ _
  obtain ⟨W1, HW1, b1, y1, hS1, r_at1, r_h1, r_x1, r_n1, r_ok1⟩ : ∃ X, Hid ((((((w.alloc (.cells #[.int .i64 at_] 3)).alloc (.cells #[.int .i64 0, .string ⟨#[]⟩] 25)).alloc (.cells #[.slice none 0 0] 26)).alloc (.cells #[.int .i64 0] 3)).alloc (.cells #[.bool false] 4)) = X) ∧ Below w.heap.size w X ∧ w.heap.size + 5 ≤ X.heap.size ∧ Hid (X.heap.size = w.heap.size + 1 + 1 + 1 + 1 + 1) ∧ Hid (X.heap[w.heap.size]? = some (.cells #[.int .i64 at_] 3 (0, 0))) ∧ Hid (X.heap[w.heap.size + 1]? = some (.cells #[.int .i64 0, .string ⟨#[]⟩] 25 (0, 0))) ∧ Hid (X.heap[w.heap.size + 1 + 1]? = some (.cells #[.slice none 0 0] 26 (0, 0))) ∧ Hid (X.heap[w.heap.size + 1 + 1 + 1]? = some (.cells #[.int .i64 0] 3 (0, 0))) ∧ Hid (X.heap[w.heap.size + 1 + 1 + 1 + 1]? = some (.cells #[.bool false] 4 (0, 0))) := ⟨_, rfl, ((((((Below.refl _ _).alloc (Nat.le_refl _) _).alloc (by simp) _).alloc (by simp; omega) _).alloc (by simp; omega) _).alloc (by simp; omega) _), by simp, by show _ = _; simp, (by show _ = _; exact alloc_nth5_0 w _ _ _ _ _), (by show _ = _; exact alloc_nth5_1 w _ _ _ _ _), (by show _ = _; exact alloc_nth5_2 w _ _ _ _ _), (by show _ = _; exact alloc_nth5_3 w _ _ _ _ _), (by show _ = _; exact alloc_nth5_4 w _ _ _ _ _)⟩
  have z1 : w.heap.size ≤ W1.heap.size := b1.size
  have B1 : Hid (Below w.heap.size w W1) := B0.out.trans (b1.mono B0.out.size)
  have c_at1_0 : W1.cell? ⟨w.heap.size, 0, none⟩ = some (.int .i64 at_) := row_at r_at1.out 0
  have c_h1_0 : W1.cell? ⟨w.heap.size + 1, 0, none⟩ = some (.int .i64 0) := row_at r_h1.out 0
  have c_h1_1 : W1.cell? ⟨w.heap.size + 1, 1, none⟩ = some (.string ⟨#[]⟩) := row_at r_h1.out 1
  have c_x1_0 : W1.cell? ⟨w.heap.size + 1 + 1, 0, none⟩ = some (.slice none 0 0) := row_at r_x1.out 0
  have c_n1_0 : W1.cell? ⟨w.heap.size + 1 + 1 + 1, 0, none⟩ = some (.int .i64 0) := row_at r_n1.out 0
  have c_ok1_0 : W1.cell? ⟨w.heap.size + 1 + 1 + 1 + 1, 0, none⟩ = some (.bool false) := row_at r_ok1.out 0
  go_enter_defers Tryd.func10, Tryd.ntmps10
  go_wp2_with fail
  rw [HW1.out]
  refine (q1 W1 _ (HG.out.later B1.out) (HN.out.later B1.out) (HS.out.later B1.out)).mono ?_
  rintro e W2 ⟨hor, b2⟩
  have z2 : W1.heap.size ≤ W2.heap.size := b2.size
  have B2 : Hid (Below w.heap.size w W2) := B1.out.trans (b2.mono B1.out.size)
  have r_at2 : Hid (W2.heap[w.heap.size]? = some (.cells #[.int .i64 at_] 3 (0, 0))) := rowKeep r_at1.out b2
  have r_h2 : Hid (W2.heap[w.heap.size + 1]? = some (.cells #[.int .i64 0, .string ⟨#[]⟩] 25 (0, 0))) := rowKeep r_h1.out b2
  have r_x2 : Hid (W2.heap[w.heap.size + 1 + 1]? = some (.cells #[.slice none 0 0] 26 (0, 0))) := rowKeep r_x1.out b2
  have r_n2 : Hid (W2.heap[w.heap.size + 1 + 1 + 1]? = some (.cells #[.int .i64 0] 3 (0, 0))) := rowKeep r_n1.out b2
  have r_ok2 : Hid (W2.heap[w.heap.size + 1 + 1 + 1 + 1]? = some (.cells #[.bool false] 4 (0, 0))) := rowKeep r_ok1.out b2
  have c_at2_0 : W2.cell? ⟨w.heap.size, 0, none⟩ = some (.int .i64 at_) := row_at r_at2.out 0
  have c_h2_0 : W2.cell? ⟨w.heap.size + 1, 0, none⟩ = some (.int .i64 0) := row_at r_h2.out 0
  have c_h2_1 : W2.cell? ⟨w.heap.size + 1, 1, none⟩ = some (.string ⟨#[]⟩) := row_at r_h2.out 1
  have c_x2_0 : W2.cell? ⟨w.heap.size + 1 + 1, 0, none⟩ = some (.slice none 0 0) := row_at r_x2.out 0
  have c_n2_0 : W2.cell? ⟨w.heap.size + 1 + 1 + 1, 0, none⟩ = some (.int .i64 0) := row_at r_n2.out 0
  have c_ok2_0 : W2.cell? ⟨w.heap.size + 1 + 1 + 1 + 1, 0, none⟩ = some (.bool false) := row_at r_ok2.out 0
  clear r_at1 c_at1_0 r_h1 c_h1_0 c_h1_1 r_x1 c_x1_0 r_n1 c_n1_0 r_ok1 c_ok1_0
  clear q1
  rcases hor with ⟨⟨u, pv, rfl⟩, hok⟩ | ⟨q, m, b, off, cap, he, rfl, hqm, hok⟩
  · clear q2
    unfold no12 at hok
    simp only [Prod.mk.injEq] at hok
    obtain ⟨rfl, rfl, e9, rfl⟩ := hok
    have e9 := e9.symm
    subst e9
    go_wp2_with fail
    refine leaves_cons (f := 39) (args := #[.pointer (some ⟨w.heap.size, 0, none⟩), .pointer (some ⟨w.heap.size + 1, 0, none⟩), .pointer (some ⟨w.heap.size + 1 + 1, 0, none⟩), .pointer (some ⟨w.heap.size + 1 + 1 + 1, 0, none⟩), .pointer (some ⟨w.heap.size + 1 + 1 + 1 + 1, 0, none⟩)]) (by simp) (by simp [go_sem]) ?_
    refine (catch_panicking W2 w.heap.size at_ hd0 (.slice none 0 0) 0 false u pv [] r_at2.out r_h2.out r_x2.out r_n2.out r_ok2.out).mono ?_
    rintro e u' w2 ⟨rfl, rfl, z1, z2, z3, z4, z5⟩
    show Leaves _ _ _ _ [] .returning w2
    refine ⟨_, res_c4 rfl _ _ (w.heap.size + 1) (w.heap.size + 1 + 1) (w.heap.size + 1 + 1 + 1) (w.heap.size + 1 + 1 + 1 + 1) 25 #[.int .i64 0, .string ⟨#[]⟩] (.slice none 0 0) (.int .i64 at_) (.bool false) (0, 0) _ _ _ _ rfl z1 Tryd.underlying25 rfl (sizeH hd0) rfl (row_at z2 0) Tryd.underlying26 rfl rfl (row_at z3 0) Tryd.underlying3 rfl rfl (row_at z4 0) Tryd.underlying4 rfl, .slice none 0 0, rfl, ⟨⟨rfl, Or.inl ⟨rfl, rfl⟩⟩, fun g hg => by simp [Value.ownBlock] at hg⟩, (B2.out).trans (z5.mono (Nat.le_refl _))⟩
  · simp only [Value.slice.injEq] at he
    obtain ⟨rfl, -, rfl⟩ := he
    have q2 := q2 q m
    obtain ⟨J, hJ⟩ : ∃ J : Int, ((q + m + 4 : Nat) : Int) = J := ⟨_, rfl⟩
    rw [hJ]
    have HZ1 : Hid (inBody ((xs.drop q).take m) = none → (h, x, p, ok) = no12 at_) := by
      intro h9
      unfold cutC at hok
      rw [h9] at hok
      exact hok
    have HZ2 : Hid (∀ h' x', inBody ((xs.drop q).take m) = some (h', x') → (h, x, p, ok) = (h', x', J, true)) := by
      intro h' x' h9
      unfold cutC at hok
      rw [h9, hJ] at hok
      exact hok
    have HSB : Hid (∀ W, Below w.heap.size w W → Sl W (.slice (some ⟨b, off + q, none⟩) m (cap0 - q)) (bs ((xs.drop q).take m))) := fun W hW => slMidB (HS.out.later hW) q m (by omega)
    clear hok hJ hqm
    go_wp2_with (refine wpl_oneG rfl 3 _ _ rfl (w.heap.size + 1 + 1 + 1) 0 (.int .i64 J) rfl rfl [.int .i64 0] 3 r_n2.out (Nat.le_of_ble_eq_true rfl) (by kernel_rfl) rfl [.int .i64 J] rfl ?_)
    intro W3 r_n3 g3
    have r_n3 : Hid (W3.heap[w.heap.size + 1 + 1 + 1]? = some (.cells #[.int .i64 J] 3 (0, 0))) := r_n3
    have z3 : W2.heap.size ≤ W3.heap.size := g3.size
    have B3 : Hid (Below w.heap.size w W3) := belowGro B2.out g3 B2.out.size (fun k9 h9 => by injection h9 with h9; have := B2.out.size; omega)
    have r_at3 : Hid (W3.heap[w.heap.size]? = some (.cells #[.int .i64 at_] 3 (0, 0))) := rowGro r_at2.out g3 (fun h9 => by injection h9 with h9; omega)
    have r_h3 : Hid (W3.heap[w.heap.size + 1]? = some (.cells #[.int .i64 0, .string ⟨#[]⟩] 25 (0, 0))) := rowGro r_h2.out g3 (fun h9 => by injection h9 with h9; omega)
    have r_x3 : Hid (W3.heap[w.heap.size + 1 + 1]? = some (.cells #[.slice none 0 0] 26 (0, 0))) := rowGro r_x2.out g3 (fun h9 => by injection h9 with h9; omega)
    have r_ok3 : Hid (W3.heap[w.heap.size + 1 + 1 + 1 + 1]? = some (.cells #[.bool false] 4 (0, 0))) := rowGro r_ok2.out g3 (fun h9 => by injection h9 with h9; omega)
    have c_at3_0 : W3.cell? ⟨w.heap.size, 0, none⟩ = some (.int .i64 at_) := row_at r_at3.out 0
    have c_h3_0 : W3.cell? ⟨w.heap.size + 1, 0, none⟩ = some (.int .i64 0) := row_at r_h3.out 0
    have c_h3_1 : W3.cell? ⟨w.heap.size + 1, 1, none⟩ = some (.string ⟨#[]⟩) := row_at r_h3.out 1
    have c_x3_0 : W3.cell? ⟨w.heap.size + 1 + 1, 0, none⟩ = some (.slice none 0 0) := row_at r_x3.out 0
    have c_n3_0 : W3.cell? ⟨w.heap.size + 1 + 1 + 1, 0, none⟩ = some (.int .i64 J) := row_at r_n3.out 0
    have c_ok3_0 : W3.cell? ⟨w.heap.size + 1 + 1 + 1 + 1, 0, none⟩ = some (.bool false) := row_at r_ok3.out 0
    clear r_at2 c_at2_0 r_h2 c_h2_0 c_h2_1 r_x2 c_x2_0 r_ok2 c_ok2_0
    clear r_n2 c_n2_0
    clear g3
    go_wp2_with fail
    refine (q2 W3 _ (HN.out.later B3.out) (HSB.out _ B3.out)).mono ?_
    rintro e W4 ⟨hor, b4⟩
    have z4 : W3.heap.size ≤ W4.heap.size := b4.size
    have B4 : Hid (Below w.heap.size w W4) := B3.out.trans (b4.mono B3.out.size)
    have r_at4 : Hid (W4.heap[w.heap.size]? = some (.cells #[.int .i64 at_] 3 (0, 0))) := rowKeep r_at3.out b4
    have r_h4 : Hid (W4.heap[w.heap.size + 1]? = some (.cells #[.int .i64 0, .string ⟨#[]⟩] 25 (0, 0))) := rowKeep r_h3.out b4
    have r_x4 : Hid (W4.heap[w.heap.size + 1 + 1]? = some (.cells #[.slice none 0 0] 26 (0, 0))) := rowKeep r_x3.out b4
    have r_n4 : Hid (W4.heap[w.heap.size + 1 + 1 + 1]? = some (.cells #[.int .i64 J] 3 (0, 0))) := rowKeep r_n3.out b4
    have r_ok4 : Hid (W4.heap[w.heap.size + 1 + 1 + 1 + 1]? = some (.cells #[.bool false] 4 (0, 0))) := rowKeep r_ok3.out b4
    have c_at4_0 : W4.cell? ⟨w.heap.size, 0, none⟩ = some (.int .i64 at_) := row_at r_at4.out 0
    have c_h4_0 : W4.cell? ⟨w.heap.size + 1, 0, none⟩ = some (.int .i64 0) := row_at r_h4.out 0
    have c_h4_1 : W4.cell? ⟨w.heap.size + 1, 1, none⟩ = some (.string ⟨#[]⟩) := row_at r_h4.out 1
    have c_x4_0 : W4.cell? ⟨w.heap.size + 1 + 1, 0, none⟩ = some (.slice none 0 0) := row_at r_x4.out 0
    have c_n4_0 : W4.cell? ⟨w.heap.size + 1 + 1 + 1, 0, none⟩ = some (.int .i64 J) := row_at r_n4.out 0
    have c_ok4_0 : W4.cell? ⟨w.heap.size + 1 + 1 + 1 + 1, 0, none⟩ = some (.bool false) := row_at r_ok4.out 0
    clear r_at3 c_at3_0 r_h3 c_h3_0 c_h3_1 r_x3 c_x3_0 r_n3 c_n3_0 r_ok3 c_ok3_0
    clear q2
    rcases hor with ⟨⟨u, pv, rfl⟩, hok⟩ | ⟨h', x', v_u, rfl, hok, o_u4⟩
    · have hok := HZ1.out hok
      clear HZ1 HZ2 HSB
      unfold no12 at hok
      simp only [Prod.mk.injEq] at hok
      obtain ⟨rfl, rfl, e9, rfl⟩ := hok
      have e9 := e9.symm
      subst e9
      go_wp2_with fail
      refine leaves_cons (f := 39) (args := #[.pointer (some ⟨w.heap.size, 0, none⟩), .pointer (some ⟨w.heap.size + 1, 0, none⟩), .pointer (some ⟨w.heap.size + 1 + 1, 0, none⟩), .pointer (some ⟨w.heap.size + 1 + 1 + 1, 0, none⟩), .pointer (some ⟨w.heap.size + 1 + 1 + 1 + 1, 0, none⟩)]) (by simp) (by simp [go_sem]) ?_
      refine (catch_panicking W4 w.heap.size at_ hd0 (.slice none 0 0) J false u pv [] r_at4.out r_h4.out r_x4.out r_n4.out r_ok4.out).mono ?_
      rintro e u' w2 ⟨rfl, rfl, z1, z2, z3, z4, z5⟩
      show Leaves _ _ _ _ [] .returning w2
      refine ⟨_, res_c4 rfl _ _ (w.heap.size + 1) (w.heap.size + 1 + 1) (w.heap.size + 1 + 1 + 1) (w.heap.size + 1 + 1 + 1 + 1) 25 #[.int .i64 0, .string ⟨#[]⟩] (.slice none 0 0) (.int .i64 at_) (.bool false) (0, 0) _ _ _ _ rfl z1 Tryd.underlying25 rfl (sizeH hd0) rfl (row_at z2 0) Tryd.underlying26 rfl rfl (row_at z3 0) Tryd.underlying3 rfl rfl (row_at z4 0) Tryd.underlying4 rfl, .slice none 0 0, rfl, ⟨⟨rfl, Or.inl ⟨rfl, rfl⟩⟩, fun g hg => by simp [Value.ownBlock] at hg⟩, (B4.out).trans (z5.mono (Nat.le_refl _))⟩
    · have hok := HZ2.out h' x' hok
      simp only [Prod.mk.injEq] at hok
      obtain ⟨e1, e2, e3, e4⟩ := hok
      subst e1 e2 e4
      have e3 := e3.symm
      subst e3
      clear HZ1 HZ2 HSB
      obtain ⟨ao_u, L_u, cap_u, rfl, hL_u, hM_u⟩ := o_u4.form
      have o_u4 : Hid (Own W4 W3.heap.size W4.heap.size 9 (.slice ao_u L_u cap_u) (ss x)) := o_u4
      clear hL_u hM_u
      go_wp2_with (refine wpl_partG rfl 25 _ _ rfl (w.heap.size + 1) 0 (hc h) rfl rfl [.int .i64 0, .string ⟨#[]⟩] 25 r_h4.out (Nat.le_of_ble_eq_true rfl) (sizeH _) (oneH _) [.int .i64 h.n, .string h.r] rfl ?_)
      intro W5 r_h5 g5
      have r_h5 : Hid (W5.heap[w.heap.size + 1]? = some (.cells #[.int .i64 h.n, .string h.r] 25 (0, 0))) := r_h5
      have z5 : W4.heap.size ≤ W5.heap.size := g5.size
      have B5 : Hid (Below w.heap.size w W5) := belowGro B4.out g5 B4.out.size (fun k9 h9 => by injection h9 with h9; have := B4.out.size; omega)
      have r_at5 : Hid (W5.heap[w.heap.size]? = some (.cells #[.int .i64 at_] 3 (0, 0))) := rowGro r_at4.out g5 (fun h9 => by injection h9 with h9; omega)
      have r_x5 : Hid (W5.heap[w.heap.size + 1 + 1]? = some (.cells #[.slice none 0 0] 26 (0, 0))) := rowGro r_x4.out g5 (fun h9 => by injection h9 with h9; omega)
      have r_n5 : Hid (W5.heap[w.heap.size + 1 + 1 + 1]? = some (.cells #[.int .i64 J] 3 (0, 0))) := rowGro r_n4.out g5 (fun h9 => by injection h9 with h9; omega)
      have r_ok5 : Hid (W5.heap[w.heap.size + 1 + 1 + 1 + 1]? = some (.cells #[.bool false] 4 (0, 0))) := rowGro r_ok4.out g5 (fun h9 => by injection h9 with h9; omega)
      have o_u5 : Hid (Own W5 (W3.heap.size) (W4.heap.size) 9 (.slice ao_u L_u cap_u) (ss x)) := Own.gro o_u4.out g5 (fun k9 h9 e9 => Own.neRow o_u4.out r_h4.out (by decide) (h9.trans e9.symm))
      have c_at5_0 : W5.cell? ⟨w.heap.size, 0, none⟩ = some (.int .i64 at_) := row_at r_at5.out 0
      have c_h5_0 : W5.cell? ⟨w.heap.size + 1, 0, none⟩ = some (.int .i64 h.n) := row_at r_h5.out 0
      have c_h5_1 : W5.cell? ⟨w.heap.size + 1, 1, none⟩ = some (.string h.r) := row_at r_h5.out 1
      have c_x5_0 : W5.cell? ⟨w.heap.size + 1 + 1, 0, none⟩ = some (.slice none 0 0) := row_at r_x5.out 0
      have c_n5_0 : W5.cell? ⟨w.heap.size + 1 + 1 + 1, 0, none⟩ = some (.int .i64 J) := row_at r_n5.out 0
      have c_ok5_0 : W5.cell? ⟨w.heap.size + 1 + 1 + 1 + 1, 0, none⟩ = some (.bool false) := row_at r_ok5.out 0
      clear r_at4 c_at4_0 r_x4 c_x4_0 r_n4 c_n4_0 r_ok4 c_ok4_0 o_u4
      clear r_h4 c_h4_0 c_h4_1
      clear g5
      go_wp2_with (refine wpl_oneG rfl 26 _ _ rfl (w.heap.size + 1 + 1) 0 (.slice ao_u L_u cap_u) rfl rfl [.slice none 0 0] 26 r_x5.out (Nat.le_of_ble_eq_true rfl) (by kernel_rfl) rfl [.slice ao_u L_u cap_u] rfl ?_)
      intro W6 r_x6 g6
      have r_x6 : Hid (W6.heap[w.heap.size + 1 + 1]? = some (.cells #[.slice ao_u L_u cap_u] 26 (0, 0))) := r_x6
      have z6 : W5.heap.size ≤ W6.heap.size := g6.size
      have B6 : Hid (Below w.heap.size w W6) := belowGro B5.out g6 B5.out.size (fun k9 h9 => by injection h9 with h9; have := B5.out.size; omega)
      have r_at6 : Hid (W6.heap[w.heap.size]? = some (.cells #[.int .i64 at_] 3 (0, 0))) := rowGro r_at5.out g6 (fun h9 => by injection h9 with h9; omega)
      have r_h6 : Hid (W6.heap[w.heap.size + 1]? = some (.cells #[.int .i64 h.n, .string h.r] 25 (0, 0))) := rowGro r_h5.out g6 (fun h9 => by injection h9 with h9; omega)
      have r_n6 : Hid (W6.heap[w.heap.size + 1 + 1 + 1]? = some (.cells #[.int .i64 J] 3 (0, 0))) := rowGro r_n5.out g6 (fun h9 => by injection h9 with h9; omega)
      have r_ok6 : Hid (W6.heap[w.heap.size + 1 + 1 + 1 + 1]? = some (.cells #[.bool false] 4 (0, 0))) := rowGro r_ok5.out g6 (fun h9 => by injection h9 with h9; omega)
      have o_u6 : Hid (Own W6 (W3.heap.size) (W4.heap.size) 9 (.slice ao_u L_u cap_u) (ss x)) := Own.gro o_u5.out g6 (fun k9 h9 e9 => Own.neRow o_u5.out r_x5.out (by decide) (h9.trans e9.symm))
      have c_at6_0 : W6.cell? ⟨w.heap.size, 0, none⟩ = some (.int .i64 at_) := row_at r_at6.out 0
      have c_h6_0 : W6.cell? ⟨w.heap.size + 1, 0, none⟩ = some (.int .i64 h.n) := row_at r_h6.out 0
      have c_h6_1 : W6.cell? ⟨w.heap.size + 1, 1, none⟩ = some (.string h.r) := row_at r_h6.out 1
      have c_x6_0 : W6.cell? ⟨w.heap.size + 1 + 1, 0, none⟩ = some (.slice ao_u L_u cap_u) := row_at r_x6.out 0
      have c_n6_0 : W6.cell? ⟨w.heap.size + 1 + 1 + 1, 0, none⟩ = some (.int .i64 J) := row_at r_n6.out 0
      have c_ok6_0 : W6.cell? ⟨w.heap.size + 1 + 1 + 1 + 1, 0, none⟩ = some (.bool false) := row_at r_ok6.out 0
      clear r_at5 c_at5_0 r_h5 c_h5_0 c_h5_1 r_n5 c_n5_0 r_ok5 c_ok5_0 o_u5
      clear r_x5 c_x5_0
      clear g6
      go_wp2_with fail
      refine wp_region_held_drew (S := fun w' => w'.cell? ⟨w.heap.size + 1, 0, none⟩ = some (.int .i64 h.n) ∧ w'.cell? ⟨w.heap.size + 1, 1, none⟩ = some (.string h.r) ∧ w'.cell? ⟨w.heap.size + 1 + 1, 0, none⟩ = some (.slice ao_u L_u cap_u) ∧ w'.cell? ⟨w.heap.size + 1 + 1 + 1, 0, none⟩ = some (.int .i64 J)) (by kernel_rfl) ⟨c_h6_0, c_h6_1, c_x6_0, c_n6_0⟩ (fun hHeld => ?_)
      obtain ⟨W7, HW7, b7⟩ : ∃ X, Hid (W6.drew = X) ∧ Below W6.heap.size W6 X := ⟨_, rfl, Below.drew (Below.refl _ _)⟩
      have HHW7 := HW7.out
      rw [HHW7] at hHeld ⊢
      clear HHW7
      have z7 : W6.heap.size ≤ W7.heap.size := b7.size
      have B7 : Hid (Below w.heap.size w W7) := B6.out.trans (b7.mono B6.out.size)
      have r_at7 : Hid (W7.heap[w.heap.size]? = some (.cells #[.int .i64 at_] 3 (0, 0))) := rowKeep r_at6.out b7
      have r_h7 : Hid (W7.heap[w.heap.size + 1]? = some (.cells #[.int .i64 h.n, .string h.r] 25 (0, 0))) := rowKeep r_h6.out b7
      have r_x7 : Hid (W7.heap[w.heap.size + 1 + 1]? = some (.cells #[.slice ao_u L_u cap_u] 26 (0, 0))) := rowKeep r_x6.out b7
      have r_n7 : Hid (W7.heap[w.heap.size + 1 + 1 + 1]? = some (.cells #[.int .i64 J] 3 (0, 0))) := rowKeep r_n6.out b7
      have r_ok7 : Hid (W7.heap[w.heap.size + 1 + 1 + 1 + 1]? = some (.cells #[.bool false] 4 (0, 0))) := rowKeep r_ok6.out b7
      have o_u7 : Hid (Own W7 (W3.heap.size) (W4.heap.size) 9 (.slice ao_u L_u cap_u) (ss x)) := Own.later o_u6.out b7 (by omega)
      have c_at7_0 : W7.cell? ⟨w.heap.size, 0, none⟩ = some (.int .i64 at_) := row_at r_at7.out 0
      have c_h7_0 : W7.cell? ⟨w.heap.size + 1, 0, none⟩ = some (.int .i64 h.n) := row_at r_h7.out 0
      have c_h7_1 : W7.cell? ⟨w.heap.size + 1, 1, none⟩ = some (.string h.r) := row_at r_h7.out 1
      have c_x7_0 : W7.cell? ⟨w.heap.size + 1 + 1, 0, none⟩ = some (.slice ao_u L_u cap_u) := row_at r_x7.out 0
      have c_n7_0 : W7.cell? ⟨w.heap.size + 1 + 1 + 1, 0, none⟩ = some (.int .i64 J) := row_at r_n7.out 0
      have c_ok7_0 : W7.cell? ⟨w.heap.size + 1 + 1 + 1 + 1, 0, none⟩ = some (.bool false) := row_at r_ok7.out 0
      clear r_at6 c_at6_0 r_h6 c_h6_0 c_h6_1 r_x6 c_x6_0 r_n6 c_n6_0 r_ok6 c_ok6_0 o_u6
      (refine wpAnyH_take (i := 0) (v := ?v0x9) rfl (by kernel_rfl) (by kernel_rfl) (by kernel_rfl) (fun _ _ _ h => panic_put (by decide) (by decide) (by decide) (by decide) h) (Or.inl ⟨by rfl, ?hy0x9⟩) (by assumption) ?rest0x9; case hy0x9 => (intro w hSw; (try dsimp only at hSw); go_split_ands; go_simp; (try with_reducible rfl)))
      try simp only [Act.put, List.setIfInBounds_toArray, List.set_cons_zero, List.set_cons_succ, List.getElem_toArray, List.getElem_cons_zero, List.getElem_cons_succ]
      (refine wpAnyH_take (i := 1) (v := ?v1x10) rfl (by kernel_rfl) (by kernel_rfl) (by kernel_rfl) (fun _ _ _ h => panic_put (by decide) (by decide) (by decide) (by decide) h) (Or.inl ⟨by rfl, ?hy1x10⟩) (by assumption) ?rest1x10; case hy1x10 => (intro w hSw; (try dsimp only at hSw); go_split_ands; go_simp; (try with_reducible rfl)))
      try simp only [Act.put, List.setIfInBounds_toArray, List.set_cons_zero, List.set_cons_succ, List.getElem_toArray, List.getElem_cons_zero, List.getElem_cons_succ]
      (refine wpAnyH_take (i := 2) (v := ?v2x11) rfl (by kernel_rfl) (by kernel_rfl) (by kernel_rfl) (fun _ _ _ h => panic_put (by decide) (by decide) (by decide) (by decide) h) (Or.inl ⟨by rfl, ?hy2x11⟩) (by assumption) ?rest2x11; case hy2x11 => (intro w hSw; (try dsimp only at hSw); go_split_ands; go_simp; (try with_reducible rfl)))
      try simp only [Act.put, List.setIfInBounds_toArray, List.set_cons_zero, List.set_cons_succ, List.getElem_toArray, List.getElem_cons_zero, List.getElem_cons_succ]
      refine wpAnyH_ready (rs := [3]) (by kernel_rfl) (by simp) ?_
      refine AllReadyH.cons rfl (fun K hK => ?_) AllReadyH.nil
      rw [if_pos (by rfl)]
      refine wp_partG 25 _ _ rfl (w.heap.size + 1) 0 (hc h) rfl rfl [.int .i64 h.n, .string h.r] 25 r_h7.out (Nat.le_of_ble_eq_true rfl) (sizeH _) (oneH _) [.int .i64 h.n, .string h.r] rfl ?_
      intro W8 r_h8 g8
      refine hK.out _ _ ⟨(row_at r_h8 0), (row_at r_h8 1), (cellGro hHeld.2.2.1 g8 (by show some (w.heap.size + 1) ≠ some (w.heap.size + 1 + 1); intro h9; injection h9 with h9; omega)), (cellGro hHeld.2.2.2 g8 (by show some (w.heap.size + 1) ≠ some (w.heap.size + 1 + 1 + 1); intro h9; injection h9 with h9; omega))⟩ (fun hHeld => ?_)
      clear hK K
      try simp only [Act.put, List.setIfInBounds_toArray, List.set_cons_zero, List.set_cons_succ, List.getElem_toArray, List.getElem_cons_zero, List.getElem_cons_succ]
      have r_h8 : Hid (W8.heap[w.heap.size + 1]? = some (.cells #[.int .i64 h.n, .string h.r] 25 (0, 0))) := r_h8
      have z8 : W7.heap.size ≤ W8.heap.size := g8.size
      have B8 : Hid (Below w.heap.size w W8) := belowGro B7.out g8 B7.out.size (fun k9 h9 => by injection h9 with h9; have := B7.out.size; omega)
      have r_at8 : Hid (W8.heap[w.heap.size]? = some (.cells #[.int .i64 at_] 3 (0, 0))) := rowGro r_at7.out g8 (fun h9 => by injection h9 with h9; omega)
      have r_x8 : Hid (W8.heap[w.heap.size + 1 + 1]? = some (.cells #[.slice ao_u L_u cap_u] 26 (0, 0))) := rowGro r_x7.out g8 (fun h9 => by injection h9 with h9; omega)
      have r_n8 : Hid (W8.heap[w.heap.size + 1 + 1 + 1]? = some (.cells #[.int .i64 J] 3 (0, 0))) := rowGro r_n7.out g8 (fun h9 => by injection h9 with h9; omega)
      have r_ok8 : Hid (W8.heap[w.heap.size + 1 + 1 + 1 + 1]? = some (.cells #[.bool false] 4 (0, 0))) := rowGro r_ok7.out g8 (fun h9 => by injection h9 with h9; omega)
      have o_u8 : Hid (Own W8 (W3.heap.size) (W4.heap.size) 9 (.slice ao_u L_u cap_u) (ss x)) := Own.gro o_u7.out g8 (fun k9 h9 e9 => Own.neRow o_u7.out r_h7.out (by decide) (h9.trans e9.symm))
      have c_at8_0 : W8.cell? ⟨w.heap.size, 0, none⟩ = some (.int .i64 at_) := row_at r_at8.out 0
      have c_h8_0 : W8.cell? ⟨w.heap.size + 1, 0, none⟩ = some (.int .i64 h.n) := row_at r_h8.out 0
      have c_h8_1 : W8.cell? ⟨w.heap.size + 1, 1, none⟩ = some (.string h.r) := row_at r_h8.out 1
      have c_x8_0 : W8.cell? ⟨w.heap.size + 1 + 1, 0, none⟩ = some (.slice ao_u L_u cap_u) := row_at r_x8.out 0
      have c_n8_0 : W8.cell? ⟨w.heap.size + 1 + 1 + 1, 0, none⟩ = some (.int .i64 J) := row_at r_n8.out 0
      have c_ok8_0 : W8.cell? ⟨w.heap.size + 1 + 1 + 1 + 1, 0, none⟩ = some (.bool false) := row_at r_ok8.out 0
      clear r_at7 c_at7_0 r_x7 c_x7_0 r_n7 c_n7_0 r_ok7 c_ok7_0 o_u7
      clear r_h7 c_h7_0 c_h7_1
      clear g8
      refine wpAnyH_ready (rs := [4]) (by kernel_rfl) (by simp) ?_
      refine AllReadyH.cons rfl (fun K hK => ?_) AllReadyH.nil
      rw [if_pos (by rfl)]
      refine wp_oneG 26 _ _ rfl (w.heap.size + 1 + 1) 0 (.slice ao_u L_u cap_u) rfl rfl [.slice ao_u L_u cap_u] 26 r_x8.out (Nat.le_of_ble_eq_true rfl) (by kernel_rfl) rfl [.slice ao_u L_u cap_u] rfl ?_
      intro W9 r_x9 g9
      refine hK.out _ _ ⟨(cellGro hHeld.1 g9 (by show some (w.heap.size + 1 + 1) ≠ some (w.heap.size + 1); intro h9; injection h9 with h9; omega)), (cellGro hHeld.2.1 g9 (by show some (w.heap.size + 1 + 1) ≠ some (w.heap.size + 1); intro h9; injection h9 with h9; omega)), (row_at r_x9 0), (cellGro hHeld.2.2.2 g9 (by show some (w.heap.size + 1 + 1) ≠ some (w.heap.size + 1 + 1 + 1); intro h9; injection h9 with h9; omega))⟩ (fun hHeld => ?_)
      clear hK K
      try simp only [Act.put, List.setIfInBounds_toArray, List.set_cons_zero, List.set_cons_succ, List.getElem_toArray, List.getElem_cons_zero, List.getElem_cons_succ]
      have r_x9 : Hid (W9.heap[w.heap.size + 1 + 1]? = some (.cells #[.slice ao_u L_u cap_u] 26 (0, 0))) := r_x9
      have z9 : W8.heap.size ≤ W9.heap.size := g9.size
      have B9 : Hid (Below w.heap.size w W9) := belowGro B8.out g9 B8.out.size (fun k9 h9 => by injection h9 with h9; have := B8.out.size; omega)
      have r_at9 : Hid (W9.heap[w.heap.size]? = some (.cells #[.int .i64 at_] 3 (0, 0))) := rowGro r_at8.out g9 (fun h9 => by injection h9 with h9; omega)
      have r_h9 : Hid (W9.heap[w.heap.size + 1]? = some (.cells #[.int .i64 h.n, .string h.r] 25 (0, 0))) := rowGro r_h8.out g9 (fun h9 => by injection h9 with h9; omega)
      have r_n9 : Hid (W9.heap[w.heap.size + 1 + 1 + 1]? = some (.cells #[.int .i64 J] 3 (0, 0))) := rowGro r_n8.out g9 (fun h9 => by injection h9 with h9; omega)
      have r_ok9 : Hid (W9.heap[w.heap.size + 1 + 1 + 1 + 1]? = some (.cells #[.bool false] 4 (0, 0))) := rowGro r_ok8.out g9 (fun h9 => by injection h9 with h9; omega)
      have o_u9 : Hid (Own W9 (W3.heap.size) (W4.heap.size) 9 (.slice ao_u L_u cap_u) (ss x)) := Own.gro o_u8.out g9 (fun k9 h9 e9 => Own.neRow o_u8.out r_x8.out (by decide) (h9.trans e9.symm))
      have c_at9_0 : W9.cell? ⟨w.heap.size, 0, none⟩ = some (.int .i64 at_) := row_at r_at9.out 0
      have c_h9_0 : W9.cell? ⟨w.heap.size + 1, 0, none⟩ = some (.int .i64 h.n) := row_at r_h9.out 0
      have c_h9_1 : W9.cell? ⟨w.heap.size + 1, 1, none⟩ = some (.string h.r) := row_at r_h9.out 1
      have c_x9_0 : W9.cell? ⟨w.heap.size + 1 + 1, 0, none⟩ = some (.slice ao_u L_u cap_u) := row_at r_x9.out 0
      have c_n9_0 : W9.cell? ⟨w.heap.size + 1 + 1 + 1, 0, none⟩ = some (.int .i64 J) := row_at r_n9.out 0
      have c_ok9_0 : W9.cell? ⟨w.heap.size + 1 + 1 + 1 + 1, 0, none⟩ = some (.bool false) := row_at r_ok9.out 0
      clear r_at8 c_at8_0 r_h8 c_h8_0 c_h8_1 r_n8 c_n8_0 r_ok8 c_ok8_0 o_u8
      clear r_x8 c_x8_0
      clear g9
      refine wpAnyH_ready (rs := [5]) (by kernel_rfl) (by simp) ?_
      refine AllReadyH.cons rfl (fun K hK => ?_) AllReadyH.nil
      rw [if_pos (by rfl)]
      refine wp_oneG 3 _ _ rfl (w.heap.size + 1 + 1 + 1) 0 (.int .i64 J) rfl rfl [.int .i64 J] 3 r_n9.out (Nat.le_of_ble_eq_true rfl) (by kernel_rfl) rfl [.int .i64 J] rfl ?_
      intro W10 r_n10 g10
      refine hK.out _ _ ⟨(cellGro hHeld.1 g10 (by show some (w.heap.size + 1 + 1 + 1) ≠ some (w.heap.size + 1); intro h9; injection h9 with h9; omega)), (cellGro hHeld.2.1 g10 (by show some (w.heap.size + 1 + 1 + 1) ≠ some (w.heap.size + 1); intro h9; injection h9 with h9; omega)), (cellGro hHeld.2.2.1 g10 (by show some (w.heap.size + 1 + 1 + 1) ≠ some (w.heap.size + 1 + 1); intro h9; injection h9 with h9; omega)), (row_at r_n10 0)⟩ (fun hHeld => ?_)
      clear hK K
      try simp only [Act.put, List.setIfInBounds_toArray, List.set_cons_zero, List.set_cons_succ, List.getElem_toArray, List.getElem_cons_zero, List.getElem_cons_succ]
      have r_n10 : Hid (W10.heap[w.heap.size + 1 + 1 + 1]? = some (.cells #[.int .i64 J] 3 (0, 0))) := r_n10
      have z10 : W9.heap.size ≤ W10.heap.size := g10.size
      have B10 : Hid (Below w.heap.size w W10) := belowGro B9.out g10 B9.out.size (fun k9 h9 => by injection h9 with h9; have := B9.out.size; omega)
      have r_at10 : Hid (W10.heap[w.heap.size]? = some (.cells #[.int .i64 at_] 3 (0, 0))) := rowGro r_at9.out g10 (fun h9 => by injection h9 with h9; omega)
      have r_h10 : Hid (W10.heap[w.heap.size + 1]? = some (.cells #[.int .i64 h.n, .string h.r] 25 (0, 0))) := rowGro r_h9.out g10 (fun h9 => by injection h9 with h9; omega)
      have r_x10 : Hid (W10.heap[w.heap.size + 1 + 1]? = some (.cells #[.slice ao_u L_u cap_u] 26 (0, 0))) := rowGro r_x9.out g10 (fun h9 => by injection h9 with h9; omega)
      have r_ok10 : Hid (W10.heap[w.heap.size + 1 + 1 + 1 + 1]? = some (.cells #[.bool false] 4 (0, 0))) := rowGro r_ok9.out g10 (fun h9 => by injection h9 with h9; omega)
      have o_u10 : Hid (Own W10 (W3.heap.size) (W4.heap.size) 9 (.slice ao_u L_u cap_u) (ss x)) := Own.gro o_u9.out g10 (fun k9 h9 e9 => Own.neRow o_u9.out r_n9.out (by decide) (h9.trans e9.symm))
      have c_at10_0 : W10.cell? ⟨w.heap.size, 0, none⟩ = some (.int .i64 at_) := row_at r_at10.out 0
      have c_h10_0 : W10.cell? ⟨w.heap.size + 1, 0, none⟩ = some (.int .i64 h.n) := row_at r_h10.out 0
      have c_h10_1 : W10.cell? ⟨w.heap.size + 1, 1, none⟩ = some (.string h.r) := row_at r_h10.out 1
      have c_x10_0 : W10.cell? ⟨w.heap.size + 1 + 1, 0, none⟩ = some (.slice ao_u L_u cap_u) := row_at r_x10.out 0
      have c_n10_0 : W10.cell? ⟨w.heap.size + 1 + 1 + 1, 0, none⟩ = some (.int .i64 J) := row_at r_n10.out 0
      have c_ok10_0 : W10.cell? ⟨w.heap.size + 1 + 1 + 1 + 1, 0, none⟩ = some (.bool false) := row_at r_ok10.out 0
      clear r_at9 c_at9_0 r_h9 c_h9_0 c_h9_1 r_x9 c_x9_0 r_ok9 c_ok9_0 o_u9
      clear r_n9 c_n9_0
      clear g10
      refine wpAnyH_ready (rs := [6]) (by kernel_rfl) (by simp) ?_
      refine AllReadyH.cons rfl (fun K hK => ?_) AllReadyH.nil
      rw [if_pos (by rfl)]
      refine wp_oneG 4 _ _ rfl (w.heap.size + 1 + 1 + 1 + 1) 0 (.bool true) rfl rfl [.bool false] 4 r_ok10.out (Nat.le_of_ble_eq_true rfl) (by kernel_rfl) rfl [.bool true] rfl ?_
      intro W11 r_ok11 g11
      refine hK.out _ _ ⟨(cellGro hHeld.1 g11 (by show some (w.heap.size + 1 + 1 + 1 + 1) ≠ some (w.heap.size + 1); intro h9; injection h9 with h9; omega)), (cellGro hHeld.2.1 g11 (by show some (w.heap.size + 1 + 1 + 1 + 1) ≠ some (w.heap.size + 1); intro h9; injection h9 with h9; omega)), (cellGro hHeld.2.2.1 g11 (by show some (w.heap.size + 1 + 1 + 1 + 1) ≠ some (w.heap.size + 1 + 1); intro h9; injection h9 with h9; omega)), (cellGro hHeld.2.2.2 g11 (by show some (w.heap.size + 1 + 1 + 1 + 1) ≠ some (w.heap.size + 1 + 1 + 1); intro h9; injection h9 with h9; omega))⟩ (fun hHeld => ?_)
      clear hK K
      try simp only [Act.put, List.setIfInBounds_toArray, List.set_cons_zero, List.set_cons_succ, List.getElem_toArray, List.getElem_cons_zero, List.getElem_cons_succ]
      have r_ok11 : Hid (W11.heap[w.heap.size + 1 + 1 + 1 + 1]? = some (.cells #[.bool true] 4 (0, 0))) := r_ok11
      have z11 : W10.heap.size ≤ W11.heap.size := g11.size
      have B11 : Hid (Below w.heap.size w W11) := belowGro B10.out g11 B10.out.size (fun k9 h9 => by injection h9 with h9; have := B10.out.size; omega)
      have r_at11 : Hid (W11.heap[w.heap.size]? = some (.cells #[.int .i64 at_] 3 (0, 0))) := rowGro r_at10.out g11 (fun h9 => by injection h9 with h9; omega)
      have r_h11 : Hid (W11.heap[w.heap.size + 1]? = some (.cells #[.int .i64 h.n, .string h.r] 25 (0, 0))) := rowGro r_h10.out g11 (fun h9 => by injection h9 with h9; omega)
      have r_x11 : Hid (W11.heap[w.heap.size + 1 + 1]? = some (.cells #[.slice ao_u L_u cap_u] 26 (0, 0))) := rowGro r_x10.out g11 (fun h9 => by injection h9 with h9; omega)
      have r_n11 : Hid (W11.heap[w.heap.size + 1 + 1 + 1]? = some (.cells #[.int .i64 J] 3 (0, 0))) := rowGro r_n10.out g11 (fun h9 => by injection h9 with h9; omega)
      have o_u11 : Hid (Own W11 (W3.heap.size) (W4.heap.size) 9 (.slice ao_u L_u cap_u) (ss x)) := Own.gro o_u10.out g11 (fun k9 h9 e9 => Own.neRow o_u10.out r_ok10.out (by decide) (h9.trans e9.symm))
      have c_at11_0 : W11.cell? ⟨w.heap.size, 0, none⟩ = some (.int .i64 at_) := row_at r_at11.out 0
      have c_h11_0 : W11.cell? ⟨w.heap.size + 1, 0, none⟩ = some (.int .i64 h.n) := row_at r_h11.out 0
      have c_h11_1 : W11.cell? ⟨w.heap.size + 1, 1, none⟩ = some (.string h.r) := row_at r_h11.out 1
      have c_x11_0 : W11.cell? ⟨w.heap.size + 1 + 1, 0, none⟩ = some (.slice ao_u L_u cap_u) := row_at r_x11.out 0
      have c_n11_0 : W11.cell? ⟨w.heap.size + 1 + 1 + 1, 0, none⟩ = some (.int .i64 J) := row_at r_n11.out 0
      have c_ok11_0 : W11.cell? ⟨w.heap.size + 1 + 1 + 1 + 1, 0, none⟩ = some (.bool true) := row_at r_ok11.out 0
      clear r_at10 c_at10_0 r_h10 c_h10_0 c_h10_1 r_x10 c_x10_0 r_n10 c_n10_0 o_u10
      clear r_ok10 c_ok10_0
      clear g11
      refine wpAnyH_done (by kernel_rfl) ?_ _
      clear hHeld
      go_wp2_with fail
      refine leaves_cons (f := 39) (args := #[.pointer (some ⟨w.heap.size, 0, none⟩), .pointer (some ⟨w.heap.size + 1, 0, none⟩), .pointer (some ⟨w.heap.size + 1 + 1, 0, none⟩), .pointer (some ⟨w.heap.size + 1 + 1 + 1, 0, none⟩), .pointer (some ⟨w.heap.size + 1 + 1 + 1 + 1, 0, none⟩)]) (by simp) (by simp [go_sem]) ?_
      refine (catch_idle W11 _ _ _ _ _).mono ?_
      rintro e u' w2 ⟨rfl, rfl, rfl⟩
      have z1 := r_h11.out
      have z2 := r_x11.out
      have z3 := r_n11.out
      have z4 := r_ok11.out
      show Leaves _ _ _ _ [] .returning _
      exact ⟨_, res_c4 rfl _ _ (w.heap.size + 1) (w.heap.size + 1 + 1) (w.heap.size + 1 + 1 + 1) (w.heap.size + 1 + 1 + 1 + 1) 25 #[.int .i64 h.n, .string h.r] (.slice ao_u L_u cap_u) (.int .i64 J) (.bool true) (0, 0) _ _ _ _ rfl z1 Tryd.underlying25 rfl (sizeH h) rfl (row_at z2 0) Tryd.underlying26 rfl rfl (row_at z3 0) Tryd.underlying3 rfl rfl (row_at z4 0) Tryd.underlying4 rfl, .slice ao_u L_u cap_u, rfl, o_u11.out.mono (by omega) (by omega), B11.out⟩

end Go.Proofs.YtfpaichdkddglaaDoor.Sr
