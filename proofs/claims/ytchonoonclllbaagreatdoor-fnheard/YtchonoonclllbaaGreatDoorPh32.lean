/- Texts in one: Rcv, Rcv2, KpE, Ed2, EsA, TsA, TsB. -/
import Derived.Test.YtchonoonclllbaaGreatDoorPh31
import Derived.Defers
import Derived.Recover
import Derived.WalkLawsBesides
import Derived.Deep.RegionHeld3
import Derived.BigQuiet
import Derived.WalkSmall
set_option maxHeartbeats 16000000
set_option linter.unusedVariables false
set_option linter.unusedSimpArgs false
namespace Go.Proofs.YtchonoonclllbaaGreatDoor.Rcv
open Go.RowKit Mem Laws He
set_option maxRecDepth 1000000 in
theorem catch_idle (w : World) (p0 p1 p2 p3 p4 : Value) :
  CallsD Tryz.prog 156 #[p0, p1, p2, p3, p4] .returning w fun e u' w' => e = .returned (.tuple #[]) ∧ u' = .returning ∧ w' = w := by
 refine callsD_of_wpS Tryz.func156 rfl fun c₀ cs hu => ?_
 apply wpS_seq
 apply wpS_region
 simp [wpOpsS, go_sem, recoverD, hu, Tryz.ntmps156, Exit.thenS]
 refine wpS_cond (t := false) (by simp [Act.eval, Array.replicate]) ?_
 simp only [Bool.false_eq_true, if_false]
 refine wpS_of_wp (wp_skip ?_)
 cases c₀
 simp_all [bodyPostS, results, Tryz.results156]
set_option maxRecDepth 1000000 in
theorem catch_panicking (w : World) (g : Nat) (a : Int) (h : Hd) (v2 : Value) (n : Int) (b : Bool) (u : TypeId) (pv : Value) (older : List PanicEntry)
  (r0 : w.heap[g]? = some (.cells #[.int .i64 a] 3 (0, 0))) (r1 : w.heap[g + 1]? = some (.cells #[.int .i64 h.n, .string h.r] 26 (0, 0))) (r2 : w.heap[g + 2]? = some (.cells #[v2] 24 (0, 0))) (r3 : w.heap[g + 3]? = some (.cells #[.int .i64 n] 3 (0, 0))) (r4 : w.heap[g + 4]? = some (.cells #[.bool b] 4 (0, 0))) :
  CallsD Tryz.prog 156 #[.pointer (some ⟨g, 0, none⟩), .pointer (some ⟨g + 1, 0, none⟩), .pointer (some ⟨g + 2, 0, none⟩), .pointer (some ⟨g + 3, 0, none⟩), .pointer (some ⟨g + 4, 0, none⟩)] (.panicking ({ v := .iface u pv, recovered := false } :: older)) w fun e u' w' =>
   e = .returned (.tuple #[]) ∧ u' = .panicking ({ v := .iface u pv, recovered := true } :: older) ∧ w'.heap[g + 1]? = some (.cells #[.int .i64 0, .string ⟨#[]⟩] 26 (0, 0)) ∧ w'.heap[g + 2]? = some (.cells #[.slice none 0 0] 24 (0, 0)) ∧ w'.heap[g + 3]? = some (.cells #[.int .i64 a] 3 (0, 0)) ∧ w'.heap[g + 4]? = some (.cells #[.bool false] 4 (0, 0)) ∧ Below g w w' := by
 refine callsD_of_wpS Tryz.func156 rfl fun c₀ cs hu => ?_
 apply wpS_seq
 apply wpS_region
 simp [wpOpsS, go_sem, recoverD, hu, Tryz.ntmps156, Exit.thenS]
 refine wpS_cond (t := true) (by simp [Act.eval, Array.replicate]) ?_
 simp only [if_true]
 refine wpS_of_wp ?_
 have c0 : w.cell? ⟨g, 0, none⟩ = some (.int .i64 a) := row_at r0 0
 have R0 : Hid _ := r0
 have R1 : Hid _ := r1
 have R2 : Hid _ := r2
 have R3 : Hid _ := r3
 have R4 : Hid _ := r4
 have hgs : g + 4 < w.heap.size := (Array.getElem?_eq_some_iff.1 r4).1
 clear r0 r1 r2 r3 r4
 go_wp2_with (refine wpl_partG rfl 26 _ _ rfl (g + 1) 0 (hc hd0) rfl rfl [.int .i64 h.n, .string h.r] 26 R1.out (Nat.le_of_ble_eq_true rfl) (sizeH hd0) (oneH hd0) [.int .i64 0, .string ⟨#[]⟩] rfl ?_)
 intro W1 s1 t1
 have R1 : Hid (W1.heap[g + 1]? = some (.cells #[.int .i64 0, .string ⟨#[]⟩] 26 (0, 0))) := s1
 have R2 : Hid (W1.heap[g + 2]? = some (.cells #[v2] 24 (0, 0))) := rowGro R2.out t1 (fun h9 => by injection h9 with h9; omega)
 have R3 : Hid (W1.heap[g + 3]? = some (.cells #[.int .i64 n] 3 (0, 0))) := rowGro R3.out t1 (fun h9 => by injection h9 with h9; omega)
 have R4 : Hid (W1.heap[g + 4]? = some (.cells #[.bool b] 4 (0, 0))) := rowGro R4.out t1 (fun h9 => by injection h9 with h9; omega)
 have B1 : Hid (Below g w W1) := belowGro (Below.refl g w) t1 (by have := (Below.refl g w).size; omega) (fun k9 h9 => by injection h9 with h9; omega)
 clear s1 t1
 go_wp2_with (refine wpl_oneG rfl 24 _ _ rfl (g + 2) 0 (.slice none 0 0) rfl rfl [v2] 24 R2.out (Nat.le_of_ble_eq_true rfl) (by kernel_rfl) rfl [.slice none 0 0] rfl ?_)
 intro W2 s2 t2
 have R1 : Hid (W2.heap[g + 1]? = some (.cells #[.int .i64 0, .string ⟨#[]⟩] 26 (0, 0))) := rowGro R1.out t2 (fun h9 => by injection h9 with h9; omega)
 have R2 : Hid (W2.heap[g + 2]? = some (.cells #[.slice none 0 0] 24 (0, 0))) := s2
 have R3 : Hid (W2.heap[g + 3]? = some (.cells #[.int .i64 n] 3 (0, 0))) := rowGro R3.out t2 (fun h9 => by injection h9 with h9; omega)
 have R4 : Hid (W2.heap[g + 4]? = some (.cells #[.bool b] 4 (0, 0))) := rowGro R4.out t2 (fun h9 => by injection h9 with h9; omega)
 have B2 : Hid (Below g w W2) := belowGro (B1.out) t2 (by have := (B1.out).size; omega) (fun k9 h9 => by injection h9 with h9; omega)
 clear s2 t2
 go_wp2_with (refine wpl_oneG rfl 3 _ _ rfl (g + 3) 0 (.int .i64 a) rfl rfl [.int .i64 n] 3 R3.out (Nat.le_of_ble_eq_true rfl) (by kernel_rfl) rfl [.int .i64 a] rfl ?_)
 intro W3 s3 t3
 have R1 : Hid (W3.heap[g + 1]? = some (.cells #[.int .i64 0, .string ⟨#[]⟩] 26 (0, 0))) := rowGro R1.out t3 (fun h9 => by injection h9 with h9; omega)
 have R2 : Hid (W3.heap[g + 2]? = some (.cells #[.slice none 0 0] 24 (0, 0))) := rowGro R2.out t3 (fun h9 => by injection h9 with h9; omega)
 have R3 : Hid (W3.heap[g + 3]? = some (.cells #[.int .i64 a] 3 (0, 0))) := s3
 have R4 : Hid (W3.heap[g + 4]? = some (.cells #[.bool b] 4 (0, 0))) := rowGro R4.out t3 (fun h9 => by injection h9 with h9; omega)
 have B3 : Hid (Below g w W3) := belowGro (B2.out) t3 (by have := (B2.out).size; omega) (fun k9 h9 => by injection h9 with h9; omega)
 clear s3 t3
 go_wp2_with (refine wpl_oneG rfl 4 _ _ rfl (g + 4) 0 (.bool false) rfl rfl [.bool b] 4 R4.out (Nat.le_of_ble_eq_true rfl) (by kernel_rfl) rfl [.bool false] rfl ?_)
 intro W4 s4 t4
 have R1 : Hid (W4.heap[g + 1]? = some (.cells #[.int .i64 0, .string ⟨#[]⟩] 26 (0, 0))) := rowGro R1.out t4 (fun h9 => by injection h9 with h9; omega)
 have R2 : Hid (W4.heap[g + 2]? = some (.cells #[.slice none 0 0] 24 (0, 0))) := rowGro R2.out t4 (fun h9 => by injection h9 with h9; omega)
 have R3 : Hid (W4.heap[g + 3]? = some (.cells #[.int .i64 a] 3 (0, 0))) := rowGro R3.out t4 (fun h9 => by injection h9 with h9; omega)
 have R4 : Hid (W4.heap[g + 4]? = some (.cells #[.bool false] 4 (0, 0))) := s4
 have B4 : Hid (Below g w W4) := belowGro (B3.out) t4 (by have := (B3.out).size; omega) (fun k9 h9 => by injection h9 with h9; omega)
 clear s4 t4
 go_wp2
 exact ⟨rfl, _, rfl, _, by simp [results, Tryz.results156], rfl, rfl, R1.out, R2.out, R3.out, R4.out, B4.out⟩
end Go.Proofs.YtchonoonclllbaaGreatDoor.Rcv
namespace Go.Proofs.YtchonoonclllbaaGreatDoor.Rcv
open Go.RowKit Mem Laws Bytes He Sr
theorem Leaves.congr {P : Program} {fn : Func} {R : Ending → World → Prop} {t1 t2 : Array Value} (e : results fn t1 = results fn t2) : ∀ (ds : List Deferred) (u : FrameMode) (w : World), Leaves P fn t1 R ds u w → Leaves P fn t2 R ds u w := by
 intro ds
 induction ds with
 | nil =>
  intro u w h
  cases u with
  | run => exact h
  | returning => simpa only [Leaves, e] using h
  | panicking c => exact h
 | cons d ds ih =>
  intro u w h
  obtain ⟨hr, fv, cap, f, args, ht, hi, hc⟩ := h
  refine ⟨hr, fv, cap, f, args, ht, hi, hc.mono ?_⟩
  intro e' u' w' hh
  cases e' with
  | returned v => exact ih _ _ hh
  | panicked c => exact ih _ _ hh
  | outgrown => exact hh
def aggB : TypeDesc → Bool
 | .struct _ | .array _ _ => true
 | _ => false
theorem res_put {fn : Func} {p q u v : Tmp} {ty t2 t3 t4 : TypeId} (h : fn.results = #[.cell p ty, .cell q t2, .cell u t3, .cell v t4]) {i : Tmp} (hp : i ≠ p) (hq : i ≠ q) (hu : i ≠ u) (hv : i ≠ v) (t : Array Value) (x : Value) : results fn (t.setIfInBounds i x) = results fn t := by
 simp [results, h, Array.getElem?_setIfInBounds, hp, hq, hu, hv]
theorem panic_put {i : Tmp} {x : Value} {c : List PanicEntry} {a : Act} {w : World} {R : Ending → World → Prop} (h4 : i ≠ 4) (h5 : i ≠ 5) (h6 : i ≠ 6) (h7 : i ≠ 7) (h : bodyPostD Tryz.prog Tryz.f114 R (.panic c) (a.put (some i) x) w) : bodyPostD Tryz.prog Tryz.f114 R (.panic c) a w :=
 Leaves.congr (res_put rfl h4 h5 h6 h7 a.tmps x) _ _ _ h
theorem res_c4 {P : Program} {fn : Func} {p q u v : Tmp} {ty t2 t3 t4 : TypeId} (h : fn.results = #[.cell p ty, .cell q t2, .cell u t3, .cell v t4]) (tmps : Array Value) (w : World) (g1 g2 g3 g4 : Nat) (t : TypeId) (c1 : Array Value) (x2 x3 x4 : Value) (fr : Nat × Nat) (d d2 d3 d4 : TypeDesc)
  (hp : tmps.getD p undef = .pointer (some ⟨g1, 0, none⟩)) (hg1 : w.heap[g1]? = some (.cells c1 t fr)) (hu : P.underlying ty = some d) (hd : (match d with | .struct _ | .array _ _ => true | _ => false) = true) (hi1 : (P.info? ty).map (·.size) = some c1.size)
  (hq : tmps.getD q undef = .pointer (some ⟨g2, 0, none⟩)) (h2 : w.cell? ⟨g2, 0, none⟩ = some x2) (hu2 : P.underlying t2 = some d2) (hd2 : aggB d2 = false)
  (hr : tmps.getD u undef = .pointer (some ⟨g3, 0, none⟩)) (h3 : w.cell? ⟨g3, 0, none⟩ = some x3) (hu3 : P.underlying t3 = some d3) (hd3 : aggB d3 = false)
  (hs : tmps.getD v undef = .pointer (some ⟨g4, 0, none⟩)) (h4 : w.cell? ⟨g4, 0, none⟩ = some x4) (hu4 : P.underlying t4 = some d4) (hd4 : aggB d4 = false) :
  (results fn tmps).run P w = .ok (.tuple #[.agg c1, x2, x3, x4]) w := by
 have hp' : tmps[p]?.getD undef = .pointer (some ⟨g1, 0, none⟩) := by simpa using hp
 have hq' : tmps[q]?.getD undef = .pointer (some ⟨g2, 0, none⟩) := by simpa using hq
 have hr' : tmps[u]?.getD undef = .pointer (some ⟨g3, 0, none⟩) := by simpa using hr
 have hs' : tmps[v]?.getD undef = .pointer (some ⟨g4, 0, none⟩) := by simpa using hs
 have one : ∀ (ty : TypeId) (g : Nat) (x : Value) (d : TypeDesc), w.cell? ⟨g, 0, none⟩ = some x → P.underlying ty = some d → aggB d = false → (loadVar ty ⟨g, 0, none⟩).run P w = .ok x w := by
  intro ty g x d h1 h2 h3
  have hagg : (isAgg ty).run P w = .ok false w := by
   unfold isAgg
   rw [Sem.run_bind, run_underlying h2 w]
   cases d <;> simp_all [aggB]
  simp [loadVar, Sem.run_bind, hagg, go_sem, h1]
 simp [results, h, hp', hq', hr', hs', asAddr, run_loadVar_row w g1 t ty c1 fr d hg1 hu hd hi1, one t2 g2 x2 d2 h2 hu2 hd2, one t3 g3 x3 d3 h3 hu3 hd3, one t4 g4 x4 d4 h4 hu4 hd4]
end Go.Proofs.YtchonoonclllbaaGreatDoor.Rcv
namespace Go.Proofs.YtchonoonclllbaaGreatDoor.Sr
open Go.RowKit Mem Laws Bytes Sha Tr He Lg Rcv
set_option maxRecDepth 1000000 in
theorem getc_land (w : World) (v : Value) (xs : List Int) (at_ : Int) (hG : Glob w) (hN : NoC w) (hs : Sl w v (bs xs)) (hb : Byt xs) (hx : xs.length ≤ 1000000000000) (hlo : -9223372036854775808 ≤ at_) (hhi : at_ ≤ 9223372036854775807) :
  Calls Tryz.prog 114 #[v, .int .i64 at_] w fun e w' => GotC xs at_ w e w' := by
 have hmf : ∀ (fn : Fn) (first cap : Array Value) (w : World), (Instr.makeFunc fn first cap).run Tryz.prog w = .ok (.func fn first cap) w := fun _ _ _ _ => rfl
 have HS : Hid (Sl w v (bs xs)) := hs
 have HBY : Hid (Byt xs) := hb
 have HG : Hid (Glob w) := hG
 have HN : Hid (NoC w) := hN
 obtain ⟨ao0, cap0, rfl, hc0⟩ := hs.form
 unfold GotC
 obtain ⟨E, hE⟩ : ∃ E, getC xs at_ = E := ⟨_, rfl⟩
 have q1 : ∀ W v1, Glob W → NoC W → Sl W v1 (bs xs) → _ := fun W v1 g1 g2 h1 => cut_impl W v1 xs at_ g1 g2 h1 hb hx hlo hhi
 have q2 : ∀ (q m : Nat) W v1, NoC W → Sl W v1 (bs ((xs.drop q).take m)) → _ := fun q m W v1 g2 h1 => readb_impl W v1 ((xs.drop q).take m) g2 h1 (fun y hy => hb y (List.mem_of_mem_drop (List.mem_of_mem_take hy))) (by rw [List.length_take, List.length_drop]; omega)
 simp only [hE] at q1
 rw [hE]
 obtain ⟨h, x, p, ok⟩ := E
 simp only [bs_len] at *
 clear hs hE hG hN hb
 have B0 : Hid (Below w.heap.size w w) := Below.refl _ _
 obtain ⟨W1, HW1, b1, y1, hS1, r_at1, r_h1, r_x1, r_n1, r_ok1⟩ : ∃ X, Hid ((((((w.alloc (.cells #[.int .i64 at_] 3)).alloc (.cells #[.int .i64 0, .string ⟨#[]⟩] 26)).alloc (.cells #[.slice none 0 0] 24)).alloc (.cells #[.int .i64 0] 3)).alloc (.cells #[.bool false] 4)) = X) ∧ Below w.heap.size w X ∧ w.heap.size + 5 ≤ X.heap.size ∧ Hid (X.heap.size = w.heap.size + 1 + 1 + 1 + 1 + 1) ∧ Hid (X.heap[w.heap.size]? = some (.cells #[.int .i64 at_] 3 (0, 0))) ∧ Hid (X.heap[w.heap.size + 1]? = some (.cells #[.int .i64 0, .string ⟨#[]⟩] 26 (0, 0))) ∧ Hid (X.heap[w.heap.size + 1 + 1]? = some (.cells #[.slice none 0 0] 24 (0, 0))) ∧ Hid (X.heap[w.heap.size + 1 + 1 + 1]? = some (.cells #[.int .i64 0] 3 (0, 0))) ∧ Hid (X.heap[w.heap.size + 1 + 1 + 1 + 1]? = some (.cells #[.bool false] 4 (0, 0))) := ⟨_, rfl, ((((((Below.refl _ _).alloc (Nat.le_refl _) _).alloc (by simp) _).alloc (by simp; omega) _).alloc (by simp; omega) _).alloc (by simp; omega) _), by simp, by show _ = _; simp, (by show _ = _; exact alloc_nth5_0 w _ _ _ _ _), (by show _ = _; exact alloc_nth5_1 w _ _ _ _ _), (by show _ = _; exact alloc_nth5_2 w _ _ _ _ _), (by show _ = _; exact alloc_nth5_3 w _ _ _ _ _), (by show _ = _; exact alloc_nth5_4 w _ _ _ _ _)⟩
 have z1 := b1.size
 have B1 := Ke.b B0 b1
 go_enter_defers Tryz.func114, Tryz.ntmps114
 go_wp2_with fail
 rw [HW1.out]
 refine (q1 W1 _ (HG.out.later B1.out) (HN.out.later B1.out) (HS.out.later B1.out)).mono ?_
 rintro e W2 ⟨hor, b2⟩
 have z2 := b2.size
 have B2 := Ke.b B1 b2
 have r_at2 := Ke.r r_at1 b2
 have r_h2 := Ke.r r_h1 b2
 have r_x2 := Ke.r r_x1 b2
 have r_n2 := Ke.r r_n1 b2
 have r_ok2 := Ke.r r_ok1 b2
 clear r_at1 r_h1 r_x1 r_n1 r_ok1
 clear q1
 rcases hor with ⟨⟨u, pv, rfl⟩, hok⟩ | ⟨q, m, b, off, cap, he, rfl, hqm, hok⟩
 ·clear q2
  unfold no12 at hok
  simp only [Prod.mk.injEq] at hok
  obtain ⟨rfl, rfl, e9, rfl⟩ := hok
  have e9 := e9.symm
  subst e9
  go_wp2_with fail
  refine leaves_cons (f := 156) (args := #[.pointer (some ⟨w.heap.size, 0, none⟩), .pointer (some ⟨w.heap.size + 1, 0, none⟩), .pointer (some ⟨w.heap.size + 1 + 1, 0, none⟩), .pointer (some ⟨w.heap.size + 1 + 1 + 1, 0, none⟩), .pointer (some ⟨w.heap.size + 1 + 1 + 1 + 1, 0, none⟩)]) (by simp) (by simp [go_sem]) ?_
  refine (catch_panicking W2 w.heap.size at_ hd0 (.slice none 0 0) 0 false u pv [] r_at2.out r_h2.out r_x2.out r_n2.out r_ok2.out).mono ?_
  rintro e u' w2 ⟨rfl, rfl, z1, z2, z3, z4, z5⟩
  show Leaves _ _ _ _ [] .returning w2
  refine ⟨_, res_c4 rfl _ _ (w.heap.size + 1) (w.heap.size + 1 + 1) (w.heap.size + 1 + 1 + 1) (w.heap.size + 1 + 1 + 1 + 1) 26 #[.int .i64 0, .string ⟨#[]⟩] (.slice none 0 0) (.int .i64 at_) (.bool false) (0, 0) _ _ _ _ rfl z1 Tryz.underlying26 rfl (sizeH hd0) rfl (row_at z2 0) Tryz.underlying24 rfl rfl (row_at z3 0) Tryz.underlying3 rfl rfl (row_at z4 0) Tryz.underlying4 rfl, .slice none 0 0, rfl, ⟨⟨rfl, Or.inl ⟨rfl, rfl⟩⟩, fun g hg => by simp [Value.ownBlock] at hg⟩, (B2.out).trans (z5.mono (Nat.le_refl _))⟩
 ·simp only [Value.slice.injEq] at he
  obtain ⟨rfl, -, rfl⟩ := he
  have q2 := q2 q m
  obtain ⟨J, hJ⟩ : ∃ J : Int, ((q + m + 4 : Nat) : Int) = J := ⟨_, rfl⟩
  rw [hJ]
  have HZ1 : Hid (inBody ((xs.drop q).take m) = none → (h, x, p, ok) = no12 at_) := by
   intro h9
   unfold cutC at hok
   rw [h9] at hok
   exact hok
  have HZ2 : Hid (∀ h' x', inBody ((xs.drop q).take m) = some (h', x') → (h, x, p, ok) = (h', x', J, true)) := by
   intro h' x' h9
   unfold cutC at hok
   rw [h9, hJ] at hok
   exact hok
  have HSB : Hid (∀ W, Below w.heap.size w W → Sl W (.slice (some ⟨b, off + q, none⟩) m (cap0 - q)) (bs ((xs.drop q).take m))) := fun W hW => slMidB (HS.out.later hW) q m (by omega)
  clear hok hJ hqm
  go_wp2_with (refine wpl_oneG rfl 3 _ _ rfl (w.heap.size + 1 + 1 + 1) 0 (.int .i64 J) rfl rfl [.int .i64 0] 3 r_n2.out (Nat.le_of_ble_eq_true rfl) (by kernel_rfl) rfl [.int .i64 J] rfl ?_)
  intro W3 r_n3 g3
  have r_n3 := Ke.h r_n3
  have z3 := g3.size
  have B3 := Ke.i B2 g3
  have r_at3 := Ke.s r_at2 g3
  have r_h3 := Ke.s r_h2 g3
  have r_x3 := Ke.s r_x2 g3
  have r_ok3 := Ke.s r_ok2 g3
  clear r_at2 r_h2 r_x2 r_ok2
  clear r_n2
  clear g3
  go_wp2_with fail
  refine (q2 W3 _ (HN.out.later B3.out) (HSB.out _ B3.out)).mono ?_
  rintro e W4 ⟨hor, b4⟩
  have z4 := b4.size
  have B4 := Ke.b B3 b4
  have r_at4 := Ke.r r_at3 b4
  have r_h4 := Ke.r r_h3 b4
  have r_x4 := Ke.r r_x3 b4
  have r_n4 := Ke.r r_n3 b4
  have r_ok4 := Ke.r r_ok3 b4
  clear r_at3 r_h3 r_x3 r_n3 r_ok3
  clear q2
  rcases hor with ⟨⟨u, pv, rfl⟩, hok⟩ | ⟨h', x', v_u, rfl, hok, o_u4⟩
  ·have hok := HZ1.out hok
   clear HZ1 HZ2 HSB
   unfold no12 at hok
   simp only [Prod.mk.injEq] at hok
   obtain ⟨rfl, rfl, e9, rfl⟩ := hok
   have e9 := e9.symm
   subst e9
   go_wp2_with fail
   refine leaves_cons (f := 156) (args := #[.pointer (some ⟨w.heap.size, 0, none⟩), .pointer (some ⟨w.heap.size + 1, 0, none⟩), .pointer (some ⟨w.heap.size + 1 + 1, 0, none⟩), .pointer (some ⟨w.heap.size + 1 + 1 + 1, 0, none⟩), .pointer (some ⟨w.heap.size + 1 + 1 + 1 + 1, 0, none⟩)]) (by simp) (by simp [go_sem]) ?_
   refine (catch_panicking W4 w.heap.size at_ hd0 (.slice none 0 0) J false u pv [] r_at4.out r_h4.out r_x4.out r_n4.out r_ok4.out).mono ?_
   rintro e u' w2 ⟨rfl, rfl, z1, z2, z3, z4, z5⟩
   show Leaves _ _ _ _ [] .returning w2
   refine ⟨_, res_c4 rfl _ _ (w.heap.size + 1) (w.heap.size + 1 + 1) (w.heap.size + 1 + 1 + 1) (w.heap.size + 1 + 1 + 1 + 1) 26 #[.int .i64 0, .string ⟨#[]⟩] (.slice none 0 0) (.int .i64 at_) (.bool false) (0, 0) _ _ _ _ rfl z1 Tryz.underlying26 rfl (sizeH hd0) rfl (row_at z2 0) Tryz.underlying24 rfl rfl (row_at z3 0) Tryz.underlying3 rfl rfl (row_at z4 0) Tryz.underlying4 rfl, .slice none 0 0, rfl, ⟨⟨rfl, Or.inl ⟨rfl, rfl⟩⟩, fun g hg => by simp [Value.ownBlock] at hg⟩, (B4.out).trans (z5.mono (Nat.le_refl _))⟩
  ·have hok := HZ2.out h' x' hok
   simp only [Prod.mk.injEq] at hok
   obtain ⟨e1, e2, e3, e4⟩ := hok
   subst e1 e2 e4
   have e3 := e3.symm
   subst e3
   clear HZ1 HZ2 HSB
   obtain ⟨ao_u, L_u, cap_u, rfl, hL_u, hM_u⟩ := o_u4.form
   have o_u4 : Hid (Own W4 W3.heap.size W4.heap.size 9 (.slice ao_u L_u cap_u) (ss x)) := o_u4
   clear hL_u hM_u
   go_wp2_with (refine wpl_partG rfl 26 _ _ rfl (w.heap.size + 1) 0 (hc h) rfl rfl [.int .i64 0, .string ⟨#[]⟩] 26 r_h4.out (Nat.le_of_ble_eq_true rfl) (sizeH _) (oneH _) [.int .i64 h.n, .string h.r] rfl ?_)
   intro W5 r_h5 g5
   have r_h5 := Ke.h r_h5
   have z5 := g5.size
   have B5 := Ke.i B4 g5
   have r_at5 := Ke.s r_at4 g5
   have r_x5 := Ke.s r_x4 g5
   have r_n5 := Ke.s r_n4 g5
   have r_ok5 := Ke.s r_ok4 g5
   have o_u5 := Ke.t o_u4 r_h4 g5
   clear r_at4 r_x4 r_n4 r_ok4 o_u4
   clear r_h4
   clear g5
   go_wp2_with (refine wpl_oneG rfl 24 _ _ rfl (w.heap.size + 1 + 1) 0 (.slice ao_u L_u cap_u) rfl rfl [.slice none 0 0] 24 r_x5.out (Nat.le_of_ble_eq_true rfl) (by kernel_rfl) rfl [.slice ao_u L_u cap_u] rfl ?_)
   intro W6 r_x6 g6
   have r_x6 := Ke.h r_x6
   have z6 := g6.size
   have B6 := Ke.i B5 g6
   have r_at6 := Ke.s r_at5 g6
   have r_h6 := Ke.s r_h5 g6
   have r_n6 := Ke.s r_n5 g6
   have r_ok6 := Ke.s r_ok5 g6
   have o_u6 := Ke.t o_u5 r_x5 g6
   have c_h6 := Ke.c r_h6
   have c_x6 := Ke.c r_x6
   have c_n6 := Ke.c r_n6
   clear r_at5 r_h5 r_n5 r_ok5 o_u5
   clear r_x5
   clear g6
   go_wp2_with fail
   refine wp_region_held_drew (S := fun w' => w'.cell? ⟨w.heap.size + 1, 0, none⟩ = some (.int .i64 h.n) ∧ w'.cell? ⟨w.heap.size + 1, 1, none⟩ = some (.string h.r) ∧ w'.cell? ⟨w.heap.size + 1 + 1, 0, none⟩ = some (.slice ao_u L_u cap_u) ∧ w'.cell? ⟨w.heap.size + 1 + 1 + 1, 0, none⟩ = some (.int .i64 J)) (by kernel_rfl) ⟨(c_h6 0), (c_h6 1), (c_x6 0), (c_n6 0)⟩ (fun hHeld => ?_)
   obtain ⟨W7, HW7, b7⟩ := Ke.v W6
   have HHW7 := HW7.out
   rw [HHW7] at hHeld ⊢
   clear HHW7
   have z7 := b7.size
   have B7 := Ke.b B6 b7
   have r_at7 := Ke.r r_at6 b7
   have r_h7 := Ke.r r_h6 b7
   have r_x7 := Ke.r r_x6 b7
   have r_n7 := Ke.r r_n6 b7
   have r_ok7 := Ke.r r_ok6 b7
   have o_u7 := Ke.o o_u6 b7
   clear r_at6 r_h6 c_h6 r_x6 c_x6 r_n6 c_n6 r_ok6 o_u6
   (refine wpAnyH_take (i := 0) (v := ?v0x9) rfl (by kernel_rfl) (by kernel_rfl) (by kernel_rfl) (fun _ _ _ h => panic_put (by decide) (by decide) (by decide) (by decide) h) (Or.inl ⟨by rfl, ?hy0x9⟩) (by assumption) ?rest0x9; case hy0x9 => (intro w hSw; (try dsimp only at hSw); go_split_ands; go_simp; (try with_reducible rfl)))
   try simp only [Act.put, pq]
   (refine wpAnyH_take (i := 1) (v := ?v1x10) rfl (by kernel_rfl) (by kernel_rfl) (by kernel_rfl) (fun _ _ _ h => panic_put (by decide) (by decide) (by decide) (by decide) h) (Or.inl ⟨by rfl, ?hy1x10⟩) (by assumption) ?rest1x10; case hy1x10 => (intro w hSw; (try dsimp only at hSw); go_split_ands; go_simp; (try with_reducible rfl)))
   try simp only [Act.put, pq]
   (refine wpAnyH_take (i := 2) (v := ?v2x11) rfl (by kernel_rfl) (by kernel_rfl) (by kernel_rfl) (fun _ _ _ h => panic_put (by decide) (by decide) (by decide) (by decide) h) (Or.inl ⟨by rfl, ?hy2x11⟩) (by assumption) ?rest2x11; case hy2x11 => (intro w hSw; (try dsimp only at hSw); go_split_ands; go_simp; (try with_reducible rfl)))
   try simp only [Act.put, pq]
   refine Ke.z 3 rfl (fun K hK => ?_)
   rw [if_pos (by rfl)]
   refine wp_partG 26 _ _ rfl (w.heap.size + 1) 0 (hc h) rfl rfl [.int .i64 h.n, .string h.r] 26 r_h7.out (Nat.le_of_ble_eq_true rfl) (sizeH _) (oneH _) [.int .i64 h.n, .string h.r] rfl ?_
   intro W8 r_h8 g8
   refine hK.out _ _ ⟨(row_at r_h8 0), (row_at r_h8 1), (cellGro hHeld.2.2.1 g8 (by show some (w.heap.size + 1) ≠ some (w.heap.size + 1 + 1); intro h9; injection h9 with h9; omega)), (cellGro hHeld.2.2.2 g8 (by show some (w.heap.size + 1) ≠ some (w.heap.size + 1 + 1 + 1); intro h9; injection h9 with h9; omega))⟩ (fun hHeld => ?_)
   clear hK K
   try simp only [Act.put, pq]
   have r_h8 : Hid (W8.heap[w.heap.size + 1]? = some (.cells #[.int .i64 h.n, .string h.r] 26 (0, 0))) := r_h8
   have z8 := g8.size
   have B8 := Ke.i B7 g8
   have r_at8 := Ke.s r_at7 g8
   have r_x8 := Ke.s r_x7 g8
   have r_n8 := Ke.s r_n7 g8
   have r_ok8 := Ke.s r_ok7 g8
   have o_u8 := Ke.t o_u7 r_h7 g8
   clear r_at7 r_x7 r_n7 r_ok7 o_u7
   clear r_h7
   clear g8
   refine Ke.z 4 rfl (fun K hK => ?_)
   rw [if_pos (by rfl)]
   refine wp_oneG 24 _ _ rfl (w.heap.size + 1 + 1) 0 (.slice ao_u L_u cap_u) rfl rfl [.slice ao_u L_u cap_u] 24 r_x8.out (Nat.le_of_ble_eq_true rfl) (by kernel_rfl) rfl [.slice ao_u L_u cap_u] rfl ?_
   intro W9 r_x9 g9
   refine hK.out _ _ ⟨(cellGro hHeld.1 g9 (by show some (w.heap.size + 1 + 1) ≠ some (w.heap.size + 1); intro h9; injection h9 with h9; omega)), (cellGro hHeld.2.1 g9 (by show some (w.heap.size + 1 + 1) ≠ some (w.heap.size + 1); intro h9; injection h9 with h9; omega)), (row_at r_x9 0), (cellGro hHeld.2.2.2 g9 (by show some (w.heap.size + 1 + 1) ≠ some (w.heap.size + 1 + 1 + 1); intro h9; injection h9 with h9; omega))⟩ (fun hHeld => ?_)
   clear hK K
   try simp only [Act.put, pq]
   have r_x9 : Hid (W9.heap[w.heap.size + 1 + 1]? = some (.cells #[.slice ao_u L_u cap_u] 24 (0, 0))) := r_x9
   have z9 := g9.size
   have B9 := Ke.i B8 g9
   have r_at9 := Ke.s r_at8 g9
   have r_h9 := Ke.s r_h8 g9
   have r_n9 := Ke.s r_n8 g9
   have r_ok9 := Ke.s r_ok8 g9
   have o_u9 := Ke.t o_u8 r_x8 g9
   clear r_at8 r_h8 r_n8 r_ok8 o_u8
   clear r_x8
   clear g9
   refine Ke.z 5 rfl (fun K hK => ?_)
   rw [if_pos (by rfl)]
   refine wp_oneG 3 _ _ rfl (w.heap.size + 1 + 1 + 1) 0 (.int .i64 J) rfl rfl [.int .i64 J] 3 r_n9.out (Nat.le_of_ble_eq_true rfl) (by kernel_rfl) rfl [.int .i64 J] rfl ?_
   intro W10 r_n10 g10
   refine hK.out _ _ ⟨(cellGro hHeld.1 g10 (by show some (w.heap.size + 1 + 1 + 1) ≠ some (w.heap.size + 1); intro h9; injection h9 with h9; omega)), (cellGro hHeld.2.1 g10 (by show some (w.heap.size + 1 + 1 + 1) ≠ some (w.heap.size + 1); intro h9; injection h9 with h9; omega)), (cellGro hHeld.2.2.1 g10 (by show some (w.heap.size + 1 + 1 + 1) ≠ some (w.heap.size + 1 + 1); intro h9; injection h9 with h9; omega)), (row_at r_n10 0)⟩ (fun hHeld => ?_)
   clear hK K
   try simp only [Act.put, pq]
   have r_n10 : Hid (W10.heap[w.heap.size + 1 + 1 + 1]? = some (.cells #[.int .i64 J] 3 (0, 0))) := r_n10
   have z10 := g10.size
   have B10 := Ke.i B9 g10
   have r_at10 := Ke.s r_at9 g10
   have r_h10 := Ke.s r_h9 g10
   have r_x10 := Ke.s r_x9 g10
   have r_ok10 := Ke.s r_ok9 g10
   have o_u10 := Ke.t o_u9 r_n9 g10
   clear r_at9 r_h9 r_x9 r_ok9 o_u9
   clear r_n9
   clear g10
   refine Ke.z 6 rfl (fun K hK => ?_)
   rw [if_pos (by rfl)]
   refine wp_oneG 4 _ _ rfl (w.heap.size + 1 + 1 + 1 + 1) 0 (.bool true) rfl rfl [.bool false] 4 r_ok10.out (Nat.le_of_ble_eq_true rfl) (by kernel_rfl) rfl [.bool true] rfl ?_
   intro W11 r_ok11 g11
   refine hK.out _ _ ⟨(cellGro hHeld.1 g11 (by show some (w.heap.size + 1 + 1 + 1 + 1) ≠ some (w.heap.size + 1); intro h9; injection h9 with h9; omega)), (cellGro hHeld.2.1 g11 (by show some (w.heap.size + 1 + 1 + 1 + 1) ≠ some (w.heap.size + 1); intro h9; injection h9 with h9; omega)), (cellGro hHeld.2.2.1 g11 (by show some (w.heap.size + 1 + 1 + 1 + 1) ≠ some (w.heap.size + 1 + 1); intro h9; injection h9 with h9; omega)), (cellGro hHeld.2.2.2 g11 (by show some (w.heap.size + 1 + 1 + 1 + 1) ≠ some (w.heap.size + 1 + 1 + 1); intro h9; injection h9 with h9; omega))⟩ (fun hHeld => ?_)
   clear hK K
   try simp only [Act.put, pq]
   have r_ok11 : Hid (W11.heap[w.heap.size + 1 + 1 + 1 + 1]? = some (.cells #[.bool true] 4 (0, 0))) := r_ok11
   have z11 := g11.size
   have B11 := Ke.i B10 g11
   have r_at11 := Ke.s r_at10 g11
   have r_h11 := Ke.s r_h10 g11
   have r_x11 := Ke.s r_x10 g11
   have r_n11 := Ke.s r_n10 g11
   have o_u11 := Ke.t o_u10 r_ok10 g11
   have c_at11 := Ke.c r_at11
   have c_h11 := Ke.c r_h11
   have c_x11 := Ke.c r_x11
   have c_n11 := Ke.c r_n11
   have c_ok11 := Ke.c r_ok11
   clear r_at10 r_h10 r_x10 r_n10 o_u10
   clear r_ok10
   clear g11
   refine wpAnyH_done (by kernel_rfl) ?_ _
   clear hHeld
   go_wp2_with fail
   refine leaves_cons (f := 156) (args := #[.pointer (some ⟨w.heap.size, 0, none⟩), .pointer (some ⟨w.heap.size + 1, 0, none⟩), .pointer (some ⟨w.heap.size + 1 + 1, 0, none⟩), .pointer (some ⟨w.heap.size + 1 + 1 + 1, 0, none⟩), .pointer (some ⟨w.heap.size + 1 + 1 + 1 + 1, 0, none⟩)]) (by simp) (by simp [go_sem]) ?_
   refine (catch_idle W11 _ _ _ _ _).mono ?_
   rintro e u' w2 ⟨rfl, rfl, rfl⟩
   have z1 := r_h11.out
   have z2 := r_x11.out
   have z3 := r_n11.out
   have z4 := r_ok11.out
   show Leaves _ _ _ _ [] .returning _
   exact ⟨_, res_c4 rfl _ _ (w.heap.size + 1) (w.heap.size + 1 + 1) (w.heap.size + 1 + 1 + 1) (w.heap.size + 1 + 1 + 1 + 1) 26 #[.int .i64 h.n, .string h.r] (.slice ao_u L_u cap_u) (.int .i64 J) (.bool true) (0, 0) _ _ _ _ rfl z1 Tryz.underlying26 rfl (sizeH h) rfl (row_at z2 0) Tryz.underlying24 rfl rfl (row_at z3 0) Tryz.underlying3 rfl rfl (row_at z4 0) Tryz.underlying4 rfl, .slice ao_u L_u cap_u, rfl, o_u11.out.mono (by omega) (by omega), B11.out⟩
end Go.Proofs.YtchonoonclllbaaGreatDoor.Sr
namespace Go.Proofs.YtchonoonclllbaaGreatDoor.Ed
open Go.RowKit Mem Laws Bytes Sha Tr
def ee (n : Int) (v : Value) : Array Value := #[.int .i64 n, v]
theorem sizeEd (n : Int) (v : Value) : (Tryz.prog.info? 149).map (·.size) = some (ee n v).size := by
 show _ = some 2
 kernel_rfl
theorem oneEd (n : Int) {v : Value} (h : v.oneCell' = true) : (ee n v).all (·.oneCell') = true := by
 simp [ee, Value.oneCell']
 exact h
theorem okE_no {n : Int} {hs : List ByteArray} (h : ¬ ((0 ≤ n ∧ n ≤ 200) ∧ hs.length = popc n.toNat ∧ ∀ s ∈ hs, s.size = 32)) : okE n hs = false := by
 cases e : okE n hs with
 | false => rfl
 | true => exact absurd (okE_iff.1 e) h
set_option maxRecDepth 1000000 in
theorem ones64_any (w : World) (x : Nat) (hx : x ≤ 255) : Calls Tryz.prog 201 #[.int .u64 (x : Int)] w fun e w' => e = .returned (.int .i64 (popc x : Int)) ∧ w' = w := by
 obtain ⟨y, rfl⟩ : ∃ y : Fin 256, x = y.val := ⟨⟨x, by omega⟩, rfl⟩
 go_enter Tryz.func201, Tryz.ntmps201
 go_wp2
 go_ret
 refine ⟨congrArg (fun z => Ending.returned (Value.int .i64 z)) ?_, rfl⟩
 clear hx
 revert y
 decide +kernel
set_option maxRecDepth 1000000 in
theorem ones_any (w : World) (x : Nat) (hx : x ≤ 255) : Calls Tryz.prog 190 #[.int .u64 (x : Int)] w fun e w' => e = .returned (.int .i64 (popc x : Int)) ∧ w = w' := by
 have q := ones64_any w x hx
 have e2 : IntKind.u64.wrap (x : Int) = (x : Int) := by rw [IntKind.wrap_u64]; omega
 go_enter Tryz.func190, Tryz.ntmps190
 go_wp2_with fail
 refine q.mono ?_
 rintro e w1 ⟨rfl, hw1⟩
 have hw1 := hw1.symm
 subst hw1
 go_wp2
 go_ret
 exact ⟨rfl, rfl⟩
set_option maxRecDepth 1000000 in
theorem ok_impl (w : World) (n : Int) (v : Value) (hs : List ByteArray) (h : Sl w v (ss hs)) (hl : hs.length ≤ 1000000000000) :
  Calls Tryz.prog 160 #[.agg #[.int .i64 n, v]] w fun e w' => e = .returned (.bool (okE n hs)) ∧ Below w.heap.size w w' := by
 have hB : Below w.heap.size w (w.alloc (.cells #[.int .i64 n, v] 149)) := (Below.refl _ _).alloc (Nat.le_refl _) _
 have r0 : (w.alloc (.cells #[.int .i64 n, v] 149)).heap[w.heap.size]? = some (.cells #[.int .i64 n, v] 149 (0, 0)) := heap_alloc_new w _
 have c0 : (w.alloc (.cells #[.int .i64 n, v] 149)).cell? ⟨w.heap.size, 0, none⟩ = some (.int .i64 n) := row_at r0 0
 have c1 : (w.alloc (.cells #[.int .i64 n, v] 149)).cell? ⟨w.heap.size, 1, none⟩ = some v := row_at r0 1
 have HB : Hid _ := hB
 have HC1 : Hid _ := c1
 have HS : Hid (Sl w v (ss hs)) := h
 obtain ⟨ao, cap, rfl, hcap⟩ := h.form
 rw [ss_len] at *
 clear r0 hB
 by_cases hin : 0 ≤ n ∧ n ≤ 200
 ·obtain ⟨i1, i2⟩ := hin
  obtain ⟨m, rfl⟩ : ∃ m : Nat, n = (m : Int) := ⟨n.toNat, by omega⟩
  have q2 : ∀ W, _ := fun W => ones_any W m (by omega)
  have e2 : IntKind.u64.wrap (m : Int) = (m : Int) := by rw [IntKind.wrap_u64]; omega
  have i3 : ¬ (m : Int) < 0 := by omega
  have i4 : ¬ (200 : Int) < (m : Int) := by omega
  by_cases hp : hs.length = popc m
  ·have dN : ((hs.length : Int) != (popc m : Int)) = false := by rw [hp]; simp
   have HP : Hid (hs.length = popc m) := hp
   clear hp
   go_enter Tryz.func160, Tryz.ntmps160
   go_wp2_with fail
   go_quiet (first | (go_at_call 190; exact quietE (q2 _)))
   clear q2
   go_wp2
   go_loopw [26] (fun i wr => ∃ k : Nat, k ≤ hs.length ∧ i = .int .i64 (k : Int) ∧ Hid (∀ s ∈ hs.take k, s.size = 32) ∧ Hid (Below w.heap.size w wr)) (fun i _ => hs.length - (intOf i).toNat)
   case atStart => exact ⟨0, Nat.zero_le _, rfl, fun s hs' => (by simp at hs'), below_drewN HB.out _⟩
   case round =>
    obtain ⟨k, hk, rfl, HA, HBr⟩ := hrel
    by_cases hlt : k < hs.length
    ·obtain ⟨s, hs0⟩ : ∃ s, hs[k]? = some s := ⟨hs[k], by simp⟩
     have hlt' : (k : Int) < (hs.length : Int) := by omega
     obtain ⟨b, off, rfl, hcell⟩ : ∃ b off, ao = some ⟨b, off, none⟩ ∧ wr.cell? ⟨b, off + k, none⟩ = some (.string s) := by
      obtain ⟨ao', c', he, _, _, hr⟩ := HS.out.later HBr.out
      rw [ss_len] at he hr
      simp only [Value.slice.injEq] at he
      obtain ⟨rfl, _, rfl⟩ := he
      obtain ⟨b, off, he, hc⟩ := hr (by omega)
      exact ⟨b, off, he, by rw [hc k hlt]; simp [ss, hs0]⟩
     by_cases h32 : s.size = 32
     ·have HA' : Hid (∀ t ∈ hs.take (k + 1), t.size = 32) := by
       intro t ht
       rw [List.take_add_one, hs0] at ht
       rcases List.mem_append.1 ht with ht | ht
       ·exact HA.out t ht
       ·simp at ht; rw [ht]; exact h32
      have d32 : ((s.size : Int) != 32) = false := by simp; omega
      clear hs0 HA h32
      go_wp2
      go_roundw
      case rel => exact ⟨k + 1, by omega, by go_num, HA', HBr⟩
      case measure => simp [intOf]; omega
     ·have HN : Hid (okE (m : Int) hs = false) := okE_no fun hh => h32 (hh.2.2 s (List.mem_of_getElem? hs0))
      have d32 : ((s.size : Int) != 32) = true := by simp; omega
      clear hs0 HA h32
      go_wp2
      go_ret
      exact ⟨by rw [HN.out]; rfl, HBr.out⟩
    ·have HN : Hid (okE (m : Int) hs = true) := okE_iff.2 ⟨⟨i1, i2⟩, by rw [Int.toNat_natCast]; exact HP.out, by
      have := HA.out
      rwa [List.take_of_length_le (by omega)] at this⟩
     have hlt' : ¬ (k : Int) < (hs.length : Int) := by omega
     clear HA
     go_wp2
     go_ret
     exact ⟨by rw [HN.out]; rfl, HBr.out⟩
  ·have HN : Hid (okE (m : Int) hs = false) := okE_no fun hh => hp (by have := hh.2.1; rwa [Int.toNat_natCast] at this)
   have dN : ((hs.length : Int) != (popc m : Int)) = true := by simp; omega
   clear hp
   go_enter Tryz.func160, Tryz.ntmps160
   go_wp2_with fail
   go_quiet (first | (go_at_call 190; exact quietE (q2 _)))
   clear q2
   go_wp2
   go_ret
   exact ⟨by rw [HN.out]; rfl, below_drewN HB.out _⟩
 ·have HN : Hid (okE n hs = false) := okE_no fun hh => hin hh.1
  by_cases h0 : n < 0
  ·clear hin
   go_enter Tryz.func160, Tryz.ntmps160
   go_wp2_with fail
   go_quiet (fail)
   go_wp2
   go_ret
   exact ⟨by rw [HN.out]; rfl, below_drewN HB.out _⟩
  ·have h1 : (200 : Int) < n := by omega
   clear hin
   go_enter Tryz.func160, Tryz.ntmps160
   go_wp2_with fail
   go_quiet (fail)
   go_wp2
   go_ret
   exact ⟨by rw [HN.out]; rfl, below_drewN HB.out _⟩
end Go.Proofs.YtchonoonclllbaaGreatDoor.Ed
namespace Go.Proofs.YtchonoonclllbaaGreatDoor.Tr
open Go.RowKit Mem Laws Bytes Sha
def cats : List ByteArray → List Int
 | [] => []
 | s :: r => sb s ++ cats r
theorem cats_byt : ∀ l, Byt (cats l)
 | [] => by intro x hx; simp [cats] at hx
 | s :: r => (sb_byt s).app (cats_byt r)
set_option maxRecDepth 1000000 in
theorem marked_any (w : World) (m : Int) (vt : Value) (l : List ByteArray) (ht : Sl w vt (ss l)) (hx : (cats l).length ≤ 300000000000) (hl : l.length ≤ 1000000) :
  Calls Tryz.prog 153 #[.int .u8 m, vt] w fun e w' => ∃ v', e = .returned v' ∧ Own w' w.heap.size w'.heap.size 5 v' (bs (m :: cats l)) ∧ Below w.heap.size w w' := by
 obtain ⟨i0, hi, hz0, hz1, hz2⟩ := info_parts info5
 have ho := oneB w w.heap.size m (Nat.le_refl _)
 have hB : Below w.heap.size w (w.alloc (.cells #[.int .u8 m] 5)) := (Below.refl _ _).alloc (Nat.le_refl _) _
 have ht0 := ht
 obtain ⟨ao, cap, rfl, hc, hn, -⟩ := ht
 rw [ss_len] at ht0 ⊢
 go_enter Tryz.func153, Tryz.ntmps153
 go_wp2
 go_loopw [5, 12] (fun b i wr => ∃ (k : Nat) (ys : List Int), k ≤ l.length ∧ i = .int .i64 k ∧ Hid (ys ++ cats (l.drop k) = m :: cats l) ∧ Own wr w.heap.size wr.heap.size 5 b (bs ys) ∧ Below w.heap.size w wr) (fun _ i _ => l.length - (intOf i).toNat)
 case atStart => exact ⟨0, [m], Nat.zero_le _, rfl, rfl, ho, hB⟩
 case round =>
  obtain ⟨k, ys, hk, rfl, HE, hor, hb⟩ := hrel
  have hsz := hb.size
  by_cases hlt : k < l.length
  ·obtain ⟨s, hs0⟩ : ∃ s, l[k]? = some s := ⟨l[k], by simp⟩
   have HD : Hid (l.drop k = s :: l.drop (k + 1)) := by
    obtain ⟨hk', rfl⟩ := List.getElem?_eq_some_iff.1 hs0
    exact List.drop_eq_getElem_cons hk'
   have hlen : ys.length + s.size ≤ 300000000001 := by
    have h1 := congrArg List.length HE.out
    rw [HD.out] at h1
    simp only [cats, List.length_append, List.length_cons, sb_len] at h1
    omega
   have hcl : ∃ b off, ao = some ⟨b, off, none⟩ ∧ wr.cell? ⟨b, off + k, none⟩ = some (.string s) := by
    obtain ⟨ao', cap', he, _, _, hr'⟩ := ht0.later hb
    rw [ss_len] at he hr'
    simp only [Value.slice.injEq] at he
    obtain ⟨rfl, _, rfl⟩ := he
    obtain ⟨b, off, he, hc⟩ := hr' (by omega)
    exact ⟨b, off, he, by rw [hc k hlt]; simp [ss, hs0]⟩
   obtain ⟨b, off, rfl, hcell⟩ := hcl
   have HN : Hid ((ys ++ sb s) ++ cats (l.drop (k + 1)) = m :: cats l) := by
    show _ = _; rw [← HE.out, HD.out, List.append_assoc]; rfl
   have c1 : ys.length + s.size ≤ 140737488355328 := by omega
   clear hs0 HD HE ht0 ho hB
   go_wp2_with (at_builtin; go_must (refine wpl_str _ rfl (.tmp 16) (.tmp 17) 22 9 rfl 5 i0 Tryz.underlying22 Tryz.underlying9 hi hz0 hz1 hz2 w.heap.size _ _ rfl hor s rfl c1 hsz ?_); intro v2 w2 ho2 hb2)
   have hb3 : Below w.heap.size w w2 := hb.trans hb2
   go_roundw
   case rel => exact ⟨k + 1, ys ++ sb s, by omega, by go_num, HN, ho2, hb3⟩
   case measure => simp [intOf]; omega
  ·have h1 := HE.out
   rw [List.drop_eq_nil_of_le (by omega)] at h1
   simp only [cats, List.append_nil] at h1
   rw [h1] at hor
   have HO : Hid (Own wr w.heap.size wr.heap.size 5 _ (bs (m :: cats l))) := hor
   have HB : Hid (Below w.heap.size w wr) := hb
   clear HE h1 hor hb ht0 ho hB
   go_wp2
   go_ret
   exact ⟨_, rfl, HO.out, HB.out⟩
theorem cats_one (s : ByteArray) : cats [s] = sb s := by simp [cats]
theorem cats_two (a b : ByteArray) : cats [a, b] = sb a ++ sb b := by simp [cats]
theorem mark_byt (m : Int) (h0 : 0 ≤ m) (h1 : m ≤ 255) (l : List ByteArray) : Byt (m :: cats l) := by
 intro x hx
 rcases List.mem_cons.1 hx with rfl | hx
 ·exact ⟨h0, h1⟩
 ·exact cats_byt l x hx
set_option maxRecDepth 1000000 in
theorem leaf_impl (w : World) (s : ByteArray) (hG : Glob w) (hs : s.size ≤ 100000000000) : Calls Tryz.prog 110 #[.string s] w fun e w' => e = .returned (.string (leafH s)) ∧ Below w.heap.size w w' := by
 have hB : Below w.heap.size w (w.alloc (.cells #[.string s] 9)) := (Below.refl _ _).alloc (Nat.le_refl _) _
 have q := marked_any _ 0 _ [s] (Laws.Sl.one w (.string s) 9) (by simp [cats, sb_len]; omega) (by simp)
 have hq : Byt (0 :: cats [s]) := mark_byt 0 (by omega) (by omega) _
 have hl : (0 :: cats [s]).length ≤ 1000000000000 := by rw [cats_one, List.length_cons, sb_len]; omega
 have q2 : ∀ W v, Below w.heap.size w W → Sl W v (bs (0 :: cats [s])) → _ := fun W v hW h => digest_impl W v (0 :: cats [s]) (hG.later hW) h hq (by omega)
 have HB : Hid (Below w.heap.size w (w.alloc (.cells #[.string s] 9))) := hB
 simp only [cats_one] at q q2
 have HL : Hid (leafH s = Plain.txt (digest (0 :: sb s))) := rfl
 obtain ⟨D, hD⟩ : ∃ D, 0 :: sb s = D := ⟨_, rfl⟩
 simp only [hD] at q q2 HL
 clear hB hq hl hD
 go_enter Tryz.func110, Tryz.ntmps110
 go_wp2_with fail
 refine q.mono ?_
 rintro e w2 ⟨v2, rfl, o2, b2⟩
 have hB2 : Below w.heap.size w w2 := HB.out.trans (b2.mono HB.out.size)
 have q3 := q2 w2 v2 hB2 o2.sl
 have HB2 : Hid (Below w.heap.size w w2) := hB2
 clear o2 b2 q2 hB2
 go_wp2_with fail
 refine q3.mono ?_
 rintro e w3 ⟨rfl, b3⟩
 have hB3 : Below w.heap.size w w3 := HB2.out.trans (b3.mono HB2.out.size)
 go_wp2
 go_ret
 exact ⟨by rw [HL.out]; rfl, hB3⟩
theorem Sl.two (w : World) (a b : ByteArray) : Sl (w.alloc (.cells #[.string a, .string b] 9)) (.slice (some ⟨w.heap.size, 0, none⟩) 2 2) (ss [a, b]) :=
 (Own.of (World.ownsRow_lit (e := 9) (base := w.heap.size) (size := 1) w #[.string a, .string b] 2 (Nat.le_refl _) (by unfold maxLen; omega) rfl)).sl
set_option maxRecDepth 1000000 in
theorem node_impl (w : World) (a b : ByteArray) (hG : Glob w) (ha : a.size ≤ 100000000000) (hb : b.size ≤ 100000000000) : Calls Tryz.prog 112 #[.string a, .string b] w fun e w' => e = .returned (.string (nodeH a b)) ∧ Below w.heap.size w w' := by
 have hB : Below w.heap.size w (w.alloc (.cells #[.string a, .string b] 9)) := (Below.refl _ _).alloc (Nat.le_refl _) _
 have q := marked_any _ 1 _ [a, b] (Sl.two w a b) (by simp [cats, sb_len]; omega) (by simp)
 have hq : Byt (1 :: cats [a, b]) := mark_byt 1 (by omega) (by omega) _
 have hl : (1 :: cats [a, b]).length ≤ 1000000000000 := by rw [cats_two, List.length_cons, List.length_append, sb_len, sb_len]; omega
 have q2 : ∀ W v, Below w.heap.size w W → Sl W v (bs (1 :: cats [a, b])) → _ := fun W v hW h => digest_impl W v (1 :: cats [a, b]) (hG.later hW) h hq (by omega)
 have HB : Hid (Below w.heap.size w (w.alloc (.cells #[.string a, .string b] 9))) := hB
 simp only [cats_two] at q q2
 have HL : Hid (nodeH a b = Plain.txt (digest (1 :: (sb a ++ sb b)))) := rfl
 obtain ⟨D, hD⟩ : ∃ D, 1 :: (sb a ++ sb b) = D := ⟨_, rfl⟩
 simp only [hD] at q q2 HL
 clear hB hq hl hD
 go_enter Tryz.func112, Tryz.ntmps112
 go_wp2_with fail
 refine q.mono ?_
 rintro e w2 ⟨v2, rfl, o2, b2⟩
 have hB2 : Below w.heap.size w w2 := HB.out.trans (b2.mono HB.out.size)
 have q3 := q2 w2 v2 hB2 o2.sl
 have HB2 : Hid (Below w.heap.size w w2) := hB2
 clear o2 b2 q2 hB2
 go_wp2_with fail
 refine q3.mono ?_
 rintro e w3 ⟨rfl, b3⟩
 have hB3 : Below w.heap.size w w3 := HB2.out.trans (b3.mono HB2.out.size)
 go_wp2
 go_ret
 exact ⟨by rw [HL.out]; rfl, hB3⟩
theorem half_log : ∀ y : Fin 256, 1 ≤ y.val → 2 ^ y.val.log2 = half (y.val + 1) := by decide +kernel
theorem log_small : ∀ y : Fin 256, y.val.log2 < 8 := by decide +kernel
set_option maxRecDepth 1000000 in
theorem len64_tab (w : World) (x : Nat) (h1 : 1 ≤ x) (h2 : x ≤ 255) : Calls Tryz.prog 199 #[.int .u64 (x : Int)] w fun e w' => (∃ (b : ByteArray) (hb : x < b.size), e = .returned (.int .i64 (wrap64 (wrap64 (b[x].toNat : Int)))) ∧ ∀ y : Fin 256, 1 ≤ y.val → b.data[y.val]?.map UInt8.toNat = some (y.val.log2 + 1)) ∧ w' = w := by
 have d1 : ¬ (4294967296 : Int) ≤ (x : Int) := by omega
 have d2 : ¬ (65536 : Int) ≤ (x : Int) := by omega
 have d3 : ¬ (256 : Int) ≤ (x : Int) := by omega
 go_enter Tryz.func199, Tryz.ntmps199
 go_wp2
 go_ret
 exact ⟨⟨_, _, rfl, by decide +kernel⟩, rfl⟩
theorem len64_any (w : World) (x : Nat) (h1 : 1 ≤ x) (h2 : x ≤ 255) : Calls Tryz.prog 199 #[.int .u64 (x : Int)] w fun e w' => e = .returned (.int .i64 ((x.log2 : Int) + 1)) ∧ w' = w := by
 refine (len64_tab w x h1 h2).mono ?_
 rintro e w' ⟨⟨b, hb, rfl, ht⟩, rfl⟩
 refine ⟨?_, rfl⟩
 have h := ht ⟨x, by omega⟩ h1
 have hl := log_small ⟨x, by omega⟩
 simp only at h hl
 have e1 : b.data[x]? = some (b[x]'hb) := by
  have hs : x < b.data.size := hb
  rw [Array.getElem?_eq_getElem hs]
  rfl
 rw [e1] at h
 simp only [Option.map_some, Option.some.injEq] at h
 rw [h]
 have e2 : wrap64 (((x.log2 + 1 : Nat)) : Int) = (x.log2 : Int) + 1 := by
  unfold wrap64; omega
 rw [e2]
 have e3 : wrap64 ((x.log2 : Int) + 1) = (x.log2 : Int) + 1 := by
  unfold wrap64; omega
 rw [e3]
set_option maxRecDepth 1000000 in
theorem len_any (w : World) (x : Nat) (h1 : 1 ≤ x) (h2 : x ≤ 255) : Calls Tryz.prog 185 #[.int .u64 (x : Int)] w fun e w' => e = .returned (.int .i64 ((x.log2 : Int) + 1)) ∧ w' = w := by
 have q := len64_any w x h1 h2
 go_enter Tryz.func185, Tryz.ntmps185
 go_wp2_with fail
 refine q.mono ?_
 rintro e w1 ⟨rfl, hw⟩
 have hw := hw.symm
 subst hw
 go_wp2
 go_ret
 exact ⟨rfl, rfl⟩
set_option maxRecDepth 1000000 in
theorem half_impl (w : World) (n : Nat) (h1 : 2 ≤ n) (h2 : n ≤ 256) : Calls Tryz.prog 154 #[.int .i64 (n : Int)] w fun e w' => e = .returned (.int .i64 (half n : Int)) ∧ w' = w := by
 obtain ⟨x, rfl⟩ : ∃ x, n = x + 1 := ⟨n - 1, by omega⟩
 have q := len_any w x (by omega) (by omega)
 have HL := log_small ⟨x, by omega⟩
 have HE : Hid (2 ^ x.log2 = half (x + 1)) := half_log ⟨x, by omega⟩ (by show 1 ≤ x; omega)
 simp only at HL
 obtain ⟨k, hk⟩ : ∃ k, x.log2 = k := ⟨_, rfl⟩
 rw [hk] at q HL HE
 have e0 : ((x + 1 : Nat) : Int) = (x : Int) + 1 := by omega
 have e1 : IntKind.i64.wrap ((x : Int) + 1 - 1) = (x : Int) := by rw [IntKind.wrap_i64]; omega
 have e2 : IntKind.u64.wrap (x : Int) = (x : Int) := by rw [IntKind.wrap_u64]; omega
 have e3 : IntKind.i64.wrap ((k : Int) + 1 - 1) = (k : Int) := by rw [IntKind.wrap_i64]; omega
 clear hk
 rw [e0]
 go_enter Tryz.func154, Tryz.ntmps154
 go_wp2_with fail
 refine q.mono ?_
 rintro e w1 ⟨rfl, hw1⟩
 have hw1 := hw1.symm
 subst hw1
 go_wp2
 go_ret
 refine ⟨?_, rfl⟩
 have hp : 2 ^ k ≤ 128 := Nat.pow_le_pow_right (n := 2) (by omega) (show k ≤ 7 by omega)
 have hc : (2 : Int) ^ k = ((2 ^ k : Nat) : Int) := by simp
 have hw : wrap64 ((2 : Int) ^ k) = (half (x + 1) : Int) := by
  rw [hc, HE.out]
  rw [HE.out] at hp
  unfold wrap64
  omega
 rw [hw]
 rfl
theorem slHalves {w : World} {v : Value} {l : List ByteArray} (h : Sl w v (ss l)) (k : Nat) (h1 : 1 ≤ k) (h2 : k < l.length) : ∃ b off cap, v = .slice (some ⟨b, off, none⟩) l.length cap ∧ l.length ≤ cap ∧
  Sl w (.slice (some ⟨b, off, none⟩) k k) (ss (l.take k)) ∧ Sl w (.slice (some ⟨b, off + k, none⟩) (l.length - k) (l.length - k)) (ss (l.drop k)) := by
 obtain ⟨b, off, cap, rfl, hcap⟩ := slForm h (by rw [ss_len]; omega)
 rw [ss_len] at h hcap ⊢
 have s1 : Sl w (.slice (some ⟨b, off, none⟩) k cap) (ss (l.take k)) := by rw [← ss_take]; exact h.front k (by rw [ss_len]; omega)
 have s2 : Sl w (.slice (some ⟨b, off + k, none⟩) (l.length - k) (cap - k)) (ss (l.drop k)) := by rw [← ss_drop]; exact slBack h k (by rw [ss_len]; omega)
 refine ⟨b, off, cap, rfl, hcap, ?_, ?_⟩
 ·obtain ⟨ao', c', he, _, _, hr⟩ := s1
  simp only [Value.slice.injEq] at he
  obtain ⟨rfl, he2, rfl⟩ := he
  exact ⟨_, k, by rw [← he2], by omega, fun h => (by cases h), hr⟩
 ·obtain ⟨ao', c', he, _, _, hr⟩ := s2
  simp only [Value.slice.injEq] at he
  obtain ⟨rfl, he2, rfl⟩ := he
  exact ⟨_, l.length - k, by rw [← he2], by omega, fun h => (by cases h), hr⟩
set_option maxRecDepth 1000000 in
theorem halves_any (w : World) (v : Value) (l : List ByteArray) (h : Sl w v (ss l)) (h2 : 2 ≤ l.length) (h3 : l.length ≤ 256) :
  Calls Tryz.prog 111 #[v] w fun e w' => ∃ b off, e = .returned (.tuple #[.slice (some ⟨b, off, none⟩) (half l.length) (half l.length), .slice (some ⟨b, off + half l.length, none⟩) (l.length - half l.length) (l.length - half l.length)]) ∧
   Sl w (.slice (some ⟨b, off, none⟩) (half l.length) (half l.length)) (ss (l.take (half l.length))) ∧ Sl w (.slice (some ⟨b, off + half l.length, none⟩) (l.length - half l.length) (l.length - half l.length)) (ss (l.drop (half l.length))) ∧ Below w.heap.size w w' := by
 obtain ⟨b, off, cap, rfl, hcap, s1, s2⟩ := slHalves h (half l.length) (half_pos h2) (half_ok h2).2.1
 have q0 := half_impl w l.length h2 h3
 have hp := half_pos h2
 have hk := (half_ok h2).2.1
 have HS : Hid (Sl w (.slice (some ⟨b, off, none⟩) (half l.length) (half l.length)) (ss (l.take (half l.length))) ∧ Sl w (.slice (some ⟨b, off + half l.length, none⟩) (l.length - half l.length) (l.length - half l.length)) (ss (l.drop (half l.length)))) := ⟨s1, s2⟩
 clear s1 s2 h
 obtain ⟨k, hkk⟩ : ∃ k, half l.length = k := ⟨_, rfl⟩
 rw [hkk] at q0 hp hk HS ⊢
 clear hkk
 have v1 : (k : Int) ≤ (l.length : Int) := by omega
 have v2 : (k : Int) ≤ (cap : Int) := by omega
 have v3 : (l.length : Int) ≤ (cap : Int) := by omega
 have vne : ¬ cap = k := by omega
 have vnf : ¬ l.length = k := by omega
 go_enter Tryz.func111, Tryz.ntmps111
 go_wp2_with fail
 refine q0.mono ?_
 rintro e w1 ⟨rfl, hw1⟩
 have hw1 := hw1.symm
 subst hw1
 go_wp2_with fail
 go_quiet (fail)
 go_wp2
 go_ret2
 exact ⟨b, off, rfl, HS.out.1, HS.out.2, below_drewN (Below.refl _ _) _⟩
end Go.Proofs.YtchonoonclllbaaGreatDoor.Tr
