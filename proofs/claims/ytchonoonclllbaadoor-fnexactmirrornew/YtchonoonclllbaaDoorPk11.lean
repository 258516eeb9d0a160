/- Texts in one: Mi2, LgH, SrH, MiH, ShaB, ShaA. -/
import Derived.Test.YtchonoonclllbaaDoorPk10
import Derived.Test.YtchonoonclllbaaDoorPk6
import Derived.Test.YtchonoonclllbaaDoorPk9
import Derived.Test.YtchonoonclllbaaDoorPk5
import Derived.Test.YtchonoonclllbaaDoorPk4
import Derived.Test.YtchonoonclllbaaDoorPk7
import Derived.BigQuiet
import Derived.Deep.RegionHeld3
import Derived.Deep.MidRow
import Derived.Laws.StructEq
import Derived.Laws.CopyOwn
import Derived.Laws.OwnMore
namespace Go.Proofs.YtchonoonclllbaaDoor.Mi
open Go.RowKit Go.Proofs.YtchonoonclllbaaDoor.Mem Go.Proofs.YtchonoonclllbaaDoor.Laws Go.Proofs.YtchonoonclllbaaDoor.Bytes Go.Proofs.YtchonoonclllbaaDoor.Sha Go.Proofs.YtchonoonclllbaaDoor.Tr Go.Proofs.YtchonoonclllbaaDoor.He Go.Proofs.YtchonoonclllbaaDoor.Lg Go.Proofs.YtchonoonclllbaaDoor.Sr Go.Proofs.YtchonoonclllbaaDoor.Mg
set_option linter.unusedVariables false
set_option linter.unusedSimpArgs false
def mq (id : Int) (v : Value) (h : Hd) (b : Value) (s : Int) (g : Hd) : Array Value := #[.int .i64 id, v, .int .i64 h.n, .string h.r, b, .int .i64 s, .int .i64 g.n, .string g.r]
theorem sizeQ (id : Int) (v : Value) (h : Hd) (b : Value) (s : Int) (g : Hd) : (Tryd.prog.info? 31).map (·.size) = some (mq id v h b s g).size := by
 show _ = some 8
 kernel_rfl
theorem oneQ {v b : Value} (id : Int) (h : Hd) (s : Int) (g : Hd) (hv : v.oneCell' = true) (hb : b.oneCell' = true) : (mq id v h b s g).all (·.oneCell') = true := by
 simp [mq, Value.oneCell']
 exact ⟨hv, hb⟩
end Go.Proofs.YtchonoonclllbaaDoor.Mi
namespace Go.Proofs.YtchonoonclllbaaDoor.Lg
open Go.RowKit Go.Proofs.YtchonoonclllbaaDoor.Mem Go.Proofs.YtchonoonclllbaaDoor.Laws Go.Proofs.YtchonoonclllbaaDoor.Bytes Go.Proofs.YtchonoonclllbaaDoor.Sha Go.Proofs.YtchonoonclllbaaDoor.Tr Go.Proofs.YtchonoonclllbaaDoor.He
set_option linter.unusedVariables false
set_option linter.unusedSimpArgs false
set_option maxRecDepth 1000000 in
set_option maxHeartbeats 2000000 in
theorem eq_log (w : World) (h : Hd) (v1 v2 : Value) (l : List ByteArray) (h1 : Sl w v1 (ss l)) (h2 : Sl w v2 (ss l)) (hl : l.length ≤ 1000000000000) :
  Calls Tryd.prog 23 #[.agg #[v1, .int .i64 h.n, .string h.r], .agg #[v2, .int .i64 h.n, .string h.r]] w fun e w' => e = .returned (.bool true) ∧ Below w.heap.size w w' := by
 obtain ⟨W, hW, r0, r1, HB⟩ : ∃ W, Hid ((w.alloc (.cells #[v1, .int .i64 h.n, .string h.r] 26)).alloc (.cells #[v2, .int .i64 h.n, .string h.r] 26) = W) ∧ W.heap[w.heap.size]? = some (.cells #[v1, .int .i64 h.n, .string h.r] 26 (0, 0)) ∧ W.heap[w.heap.size + 1]? = some (.cells #[v2, .int .i64 h.n, .string h.r] 26 (0, 0)) ∧ Hid (Below w.heap.size w W) := ⟨_, rfl, heap_alloc2_old w _ _, heap_alloc2_new w _ _, ((Below.refl _ _).alloc (Nat.le_refl _) _).alloc (by simp) _⟩
 have q := Strs.eqs_true W v1 v2 l (h1.later HB.out) (h2.later HB.out) hl
 obtain ⟨ao, cap, rfl, hcap⟩ := h1.form
 obtain ⟨ao2, cap2, rfl, hcap2⟩ := h2.form
 rw [ss_len] at *
 have qh : ∀ W', _ := fun W' => eq_head W' h
 have q' := q
 rw [← hW.out] at q'
 clear h1 h2 q
 go_enter Tryd.func23, Tryd.ntmps23
 go_wp2_with fail
 refine q'.mono ?_
 rw [hW.out]
 rintro e w1 ⟨rfl, b1, _⟩
 have s0 := rowKeep r0 (b1 _)
 have s1 := rowKeep r1 (b1 _)
 have c1 : w1.cell? ⟨w.heap.size, 1, none⟩ = some (.int .i64 h.n) := row_at s0 1
 have c2 : w1.cell? ⟨w.heap.size, 2, none⟩ = some (.string h.r) := row_at s0 2
 have d1 : w1.cell? ⟨w.heap.size + 1, 1, none⟩ = some (.int .i64 h.n) := row_at s1 1
 have d2 : w1.cell? ⟨w.heap.size + 1, 2, none⟩ = some (.string h.r) := row_at s1 2
 have HB1 : Hid (Below w.heap.size w w1) := HB.out.trans ((b1 _).mono HB.out.size)
 clear q' b1 HB s0 s1 r0 r1
 go_wp2_with fail
 refine (qh _).mono ?_
 rintro e w2 ⟨rfl, b2⟩
 have HB2 : Hid (Below w.heap.size w w2) := HB1.out.trans (b2.mono HB1.out.size)
 clear qh b2 HB1
 go_wp2
 go_ret
 exact ⟨rfl, HB2.out⟩
set_option maxRecDepth 1000000 in
set_option maxHeartbeats 2000000 in
theorem mark_log (w : World) (n : Hd) (v : Value) (lo hi : Nat) (hs : List ByteArray) (k0 : Nat) (h : Own w lo hi 9 v (ss hs)) (hhi : hi ≤ w.heap.size) (hx : hs.length ≤ 1000000000) (hk1 : 1 ≤ k0) (hk0 : k0 ≤ 1000000000) :
  Calls Tryd.prog 25 #[.agg #[v, .int .i64 n.n, .string n.r], .int .i64 (k0 : Int)] w fun e w' => e = .returned (.int .i64 ((k0 + hs.length : Nat) : Int)) ∧ Own w' lo hi 9 v (ss (Strs.mts k0 hs.length)) ∧ Apart lo hi w w' := by
 have hb : Below w.heap.size w (w.alloc (.cells #[v, .int .i64 n.n, .string n.r] 26)) := (Below.refl _ _).alloc (Nat.le_refl _) _
 have q := Strs.marks_any (w.alloc (.cells #[v, .int .i64 n.n, .string n.r] 26)) v lo hi hs k0 (h.later hb hhi) (Nat.le_trans hhi hb.size) (by omega) hk1 (by omega)
 have HA : Hid (Apart lo hi w (w.alloc (.cells #[v, .int .i64 n.n, .string n.r] 26))) := (Apart.refl lo hi w).grow hb
 obtain ⟨ao, L, cap, rfl, _, _⟩ := h.form
 obtain ⟨m, hm⟩ : ∃ m : Int, ((k0 + hs.length : Nat) : Int) = m := ⟨_, rfl⟩
 rw [hm] at q ⊢
 clear h hb hm
 go_enter Tryd.func25, Tryd.ntmps25
 go_wp2_with fail
 refine q.mono ?_
 rintro e w1 ⟨rfl, o1, a1⟩
 have HO : Hid _ := o1
 have HA2 : Hid (Apart lo hi w w1) := HA.out.trans a1
 clear q o1 a1 HA
 go_wp2
 go_ret
 exact ⟨rfl, HO.out, HA2.out⟩
set_option maxRecDepth 1000000 in
set_option maxHeartbeats 2000000 in
theorem held_log (w : World) (n : Hd) (v : Value) (m k0 : Nat) (h : Sl w v (ss (Strs.mts k0 m))) (hx : m ≤ 1000000000) (hk1 : 1 ≤ k0) (hk0 : k0 ≤ 1000000000) :
  Calls Tryd.prog 27 #[.agg #[v, .int .i64 n.n, .string n.r], .int .i64 (k0 : Int)] w fun e w' => e = .returned (.int .i64 ((k0 + m : Nat) : Int)) ∧ Below w.heap.size w w' := by
 have HB : Hid (Below w.heap.size w (w.alloc (.cells #[v, .int .i64 n.n, .string n.r] 26))) := (Below.refl _ _).alloc (Nat.le_refl _) _
 have q := Strs.helds_any (w.alloc (.cells #[v, .int .i64 n.n, .string n.r] 26)) v m k0 (h.later HB.out) (by omega) hk1 (by omega)
 obtain ⟨ao, cap, rfl, _⟩ := h.form
 obtain ⟨r, hr⟩ : ∃ r : Int, ((k0 + m : Nat) : Int) = r := ⟨_, rfl⟩
 have hr0 : ¬ r < 0 := by omega
 rw [hr] at q ⊢
 clear hr
 go_enter Tryd.func27, Tryd.ntmps27
 go_wp2_with fail
 refine q.mono ?_
 rintro e w1 ⟨rfl, b1⟩
 have HB1 : Hid (Below w.heap.size w w1) := HB.out.trans (b1.mono HB.out.size)
 clear q b1 HB
 go_wp2
 go_ret
 exact ⟨rfl, HB1.out⟩
end Go.Proofs.YtchonoonclllbaaDoor.Lg
namespace Go.Proofs.YtchonoonclllbaaDoor.Sr
open Go.RowKit Go.Proofs.YtchonoonclllbaaDoor.Mem Go.Proofs.YtchonoonclllbaaDoor.Laws Go.Proofs.YtchonoonclllbaaDoor.Bytes Go.Proofs.YtchonoonclllbaaDoor.Sha Go.Proofs.YtchonoonclllbaaDoor.Tr Go.Proofs.YtchonoonclllbaaDoor.He Go.Proofs.YtchonoonclllbaaDoor.Lg
set_option linter.unusedVariables false
set_option linter.unusedSimpArgs false
theorem pairN {w : World} {lo hi : Nat} {v vb : Value} {cs ds : List Value} (h : Own w lo hi 9 v cs) (k : Own w lo hi 5 vb ds) (hh : lo ≤ hi) : ∃ l1 h1 l2 h2, lo ≤ l1 ∧ l1 ≤ h1 ∧ h1 ≤ hi ∧ lo ≤ l2 ∧ l2 ≤ h2 ∧ h2 ≤ hi ∧ (h1 ≤ l2 ∨ h2 ≤ l1) ∧ Own w l1 h1 9 v cs ∧ Own w l2 h2 5 vb ds := by
 have one : ∀ (e : TypeId) (u : Value) (es : List Value), Own w lo hi e u es → ∃ l1 h1, lo ≤ l1 ∧ l1 ≤ h1 ∧ h1 ≤ hi ∧ Own w l1 h1 e u es ∧ (l1 = h1 ∧ l1 = lo ∨ h1 = l1 + 1 ∧ u.ownBlock = some l1) := by
  intro e u es ho
  obtain ⟨⟨h1, h2⟩, h3⟩ := ho
  rcases h2 with ⟨rfl, h0⟩ | ⟨g, cap, cur, rfl, hb, hg, q⟩
  ·
   exact ⟨lo, lo, Nat.le_refl _, Nat.le_refl _, hh, ⟨⟨h1, Or.inl ⟨rfl, h0⟩⟩, fun g hg => by simp [Value.ownBlock] at hg⟩, Or.inl ⟨rfl, rfl⟩⟩
  ·
   have hl := h3 g rfl
   exact ⟨g, g + 1, hb, by omega, hl, ⟨⟨h1, Or.inr ⟨g, cap, cur, rfl, Nat.le_refl _, hg, q⟩⟩, fun g' hg' => by simp [Value.ownBlock] at hg'; omega⟩, Or.inr ⟨rfl, rfl⟩⟩
 obtain ⟨l1, h1, a1, a2, a3, a4, a5⟩ := one 9 v cs h
 obtain ⟨l2, h2, b1, b2, b3, b4, b5⟩ := one 5 vb ds k
 refine ⟨l1, h1, l2, h2, a1, a2, a3, b1, b2, b3, ?_, a4, b4⟩
 rcases a5 with a5 | ⟨a5, a6⟩
 ·
  omega
 ·
  rcases b5 with b5 | ⟨b5, b6⟩
  ·
   omega
  ·
   have hne := Own.neOwn h k (by decide) l2 b6
   have : l1 ≠ l2 := fun e => hne (by rw [a6, e])
   omega
def Apart2 (l1 h1 l2 h2 : Nat) (w w' : World) : Prop := ∃ m, Apart l1 h1 w m ∧ Apart l2 h2 m w'
theorem Apart2.size {l1 h1 l2 h2 : Nat} {w w' : World} (h : Apart2 l1 h1 l2 h2 w w') : w.heap.size ≤ w'.heap.size := by
 obtain ⟨m, a, b⟩ := h
 exact Nat.le_trans a.size b.size
theorem Apart2.block {l1 h1 l2 h2 : Nat} {w w' : World} (h : Apart2 l1 h1 l2 h2 w w') (k : Nat) (hk : k < w.heap.size) (d1 : k < l1 ∨ h1 ≤ k) (d2 : k < l2 ∨ h2 ≤ k) : w'.heap[k]? = w.heap[k]? := by
 obtain ⟨m, a, b⟩ := h
 rw [b.block k (Nat.lt_of_lt_of_le hk a.size) (by omega), a.block k hk (by omega)]
theorem Apart2.below {l1 h1 l2 h2 B : Nat} {w w' : World} (h : Apart2 l1 h1 l2 h2 w w') (d1 : B ≤ l1) (d2 : B ≤ l2) (hB : B ≤ w.heap.size) : Below B w w' := by
 obtain ⟨m, a, b⟩ := h
 exact (a.below d1 hB).trans (b.below d2 (Nat.le_trans hB a.size))
set_option maxRecDepth 1000000 in
set_option maxHeartbeats 4000000 in
theorem eq_store (w : World) (v1 v2 b1 b2 : Value) (l : List ByteArray) (h : Hd) (b : List Int) (s : Int) (s1 : Sl w v1 (ss l)) (s2 : Sl w v2 (ss l)) (t1 : Sl w b1 (bs b)) (t2 : Sl w b2 (bs b)) (hl : l.length ≤ 1000000000) (hbl : b.length ≤ 1000000000) :
  Calls Tryd.prog 15 #[.agg #[v1, .int .i64 h.n, .string h.r, b1, .int .i64 s], .agg #[v2, .int .i64 h.n, .string h.r, b2, .int .i64 s]] w fun e w' => e = .returned (.bool true) ∧ Below w.heap.size w w' := by
 have S1 : Hid (Sl w v1 (ss l)) := s1
 have S2 : Hid (Sl w v2 (ss l)) := s2
 have T1 : Hid (Sl w b1 (bs b)) := t1
 have T2 : Hid (Sl w b2 (bs b)) := t2
 obtain ⟨ao0, cap0, rfl, hc0⟩ := s1.form
 obtain ⟨ao1, cap1, rfl, hc1⟩ := t1.form
 obtain ⟨ao2, cap2, rfl, hc2⟩ := s2.form
 obtain ⟨ao3, cap3, rfl, hc3⟩ := t2.form
 simp only [ss_len, bs_len] at *
 have n1 : (s != s) = false := by simp
 have n2 : (s == s) = true := by simp
 clear s1 s2 t1 t2
 have B0 : Hid (Below w.heap.size w w) := Below.refl _ _
 obtain ⟨W1, HW1, b1, y1, hS1, r_a1, r_b1⟩ := Ke.l2 w #[.slice ao0 l.length cap0, .int .i64 h.n, .string h.r, .slice ao1 b.length cap1, .int .i64 s] 29 #[.slice ao2 l.length cap2, .int .i64 h.n, .string h.r, .slice ao3 b.length cap3, .int .i64 s] 29
 have z1 := b1.size
 have B1 := Ke.b B0 b1
 go_enter Tryd.func15, Tryd.ntmps15
 go_wp2_with fail
 rw [HW1.out]
 refine (eq_log W1 h _ _ l (S1.out.later B1.out) (S2.out.later B1.out) (by omega)).mono ?_
 rintro e W2 ⟨rfl, b2⟩
 have z2 := b2.size
 have B2 := Ke.b B1 b2
 have r_a2 := Ke.r r_a1 b2
 have r_b2 := Ke.r r_b1 b2
 have c_a2 := Ke.c r_a2
 have c_b2 := Ke.c r_b2
 clear r_a1 r_b1
 go_wp2_with fail
 refine (eq_true W2 _ _ b (T1.out.later B2.out) (T2.out.later B2.out) (by omega)).mono ?_
 rintro e W3 ⟨rfl, h3, _⟩
 have b3 : Below W2.heap.size W2 W3 := h3 _
 clear h3
 have z3 := b3.size
 have B3 := Ke.b B2 b3
 have r_a3 := Ke.r r_a2 b3
 have r_b3 := Ke.r r_b2 b3
 have c_a3 := Ke.c r_a3
 have c_b3 := Ke.c r_b3
 clear r_a2 c_a2 r_b2 c_b2
 go_wp2
 go_ret
 exact ⟨rfl, B3.out⟩
set_option maxRecDepth 1000000 in
set_option maxHeartbeats 4000000 in
theorem mark_store (w : World) (n : Hd) (v vb : Value) (s : Int) (l1 h1 l2 h2 : Nat) (l : List ByteArray) (b : List Int) (k0 : Nat) (h9 : Own w l1 h1 9 v (ss l)) (h5 : Own w l2 h2 5 vb (bs b)) (d : h1 ≤ l2 ∨ h2 ≤ l1) (e1 : h1 ≤ w.heap.size) (e2 : h2 ≤ w.heap.size) (hx : l.length ≤ 100000000) (hb : b.length ≤ 100000000) (hk1 : 1 ≤ k0) (hk0 : k0 ≤ 100000000) :
  Calls Tryd.prog 17 #[.agg #[v, .int .i64 n.n, .string n.r, vb, .int .i64 s], .int .i64 (k0 : Int)] w fun e w' => e = .returned (.int .i64 ((k0 + l.length + b.length : Nat) : Int)) ∧ Own w' l1 h1 9 v (ss (Strs.mts k0 l.length)) ∧ Own w' l2 h2 5 vb (bs (marks (k0 + l.length) b.length)) ∧ Apart2 l1 h1 l2 h2 w w' := by
 have bA : Below w.heap.size w (w.alloc (.cells #[v, .int .i64 n.n, .string n.r, vb, .int .i64 s] 29)) := (Below.refl _ _).alloc (Nat.le_refl _) _
 obtain ⟨ao0, L0, cap0, rfl, _, _⟩ := h9.form
 obtain ⟨ao1, L1, cap1, rfl, _, _⟩ := h5.form
 obtain ⟨W1, HW1, b1, y1, r1⟩ : ∃ X, Hid (w.alloc (.cells #[.slice ao0 L0 cap0, .int .i64 n.n, .string n.r, .slice ao1 L1 cap1, .int .i64 s] 29) = X) ∧ Below w.heap.size w X ∧ w.heap.size + 1 ≤ X.heap.size ∧ Hid (X.heap[w.heap.size]? = some (.cells #[.slice ao0 L0 cap0, .int .i64 n.n, .string n.r, .slice ao1 L1 cap1, .int .i64 s] 29 (0, 0))) := ⟨_, rfl, bA, by simp, heap_alloc_new _ _⟩
 clear bA
 have q1 := mark_log W1 n _ l1 h1 l k0 (h9.later b1 e1) (by omega) (by omega) hk1 (by omega)
 have A1 : Hid (Apart l1 h1 w W1) := (Apart.refl l1 h1 w).grow b1
 have o51 : Hid (Own W1 l2 h2 5 (.slice ao1 L1 cap1) (bs b)) := h5.later b1 e2
 obtain ⟨m1, hm1⟩ : ∃ m : Int, ((k0 + l.length : Nat) : Int) = m := ⟨_, rfl⟩
 have q2 : ∀ W, Own W l2 h2 5 (.slice ao1 L1 cap1) (bs b) → _ := fun W ho => mark_bytes W _ l2 h2 b (k0 + l.length) ho (by omega) (by omega)
 obtain ⟨m2, hm2⟩ : ∃ m : Int, ((k0 + l.length + b.length : Nat) : Int) = m := ⟨_, rfl⟩
 simp only [hm1, hm2] at q2
 rw [hm1] at q1
 rw [hm2]
 clear hm1 hm2 h9 h5
 go_enter Tryd.func17, Tryd.ntmps17
 go_wp2_with fail
 rw [HW1.out]
 refine q1.mono ?_
 rintro e W2 ⟨rfl, o92, p2⟩
 have r2 : W2.heap[w.heap.size]? = some (.cells #[.slice ao0 L0 cap0, .int .i64 n.n, .string n.r, .slice ao1 L1 cap1, .int .i64 s] 29 (0, 0)) := (p2.block w.heap.size (by omega) (by omega)).trans r1.out
 have c3 : W2.cell? ⟨w.heap.size, 3, none⟩ = some (.slice ao1 L1 cap1) := row_at r2 3
 have o52 := Own.apart o51.out p2 (by omega) (by omega)
 have A2 : Hid (Apart l1 h1 w W2) := A1.out.trans p2
 have O92 : Hid _ := o92
 have O52 : Hid _ := o52
 have z2 := p2.size
 clear q1 r1 r2 o51 A1 o92 o52 p2
 go_wp2_with fail
 refine (q2 _ O52.out).mono ?_
 rintro e W3 ⟨rfl, o53, p3⟩
 have o93 := Own.apart O92.out p3 (by omega) (by omega)
 have H9 : Hid _ := o93
 have H5 : Hid _ := o53
 have A3 : Hid (Apart2 l1 h1 l2 h2 w W3) := ⟨W2, A2.out, p3⟩
 clear q2 o93 o53 p3 c3
 go_wp2
 go_ret
 exact ⟨rfl, H9.out, H5.out, A3.out⟩
set_option maxRecDepth 1000000 in
set_option maxHeartbeats 4000000 in
theorem held_store (w : World) (n : Hd) (v vb : Value) (s : Int) (m j k0 : Nat) (h9 : Sl w v (ss (Strs.mts k0 m))) (h5 : Sl w vb (bs (marks (k0 + m) j))) (hx : m ≤ 100000000) (hb : j ≤ 100000000) (hk1 : 1 ≤ k0) (hk0 : k0 ≤ 100000000) :
  Calls Tryd.prog 18 #[.agg #[v, .int .i64 n.n, .string n.r, vb, .int .i64 s], .int .i64 (k0 : Int)] w fun e w' => e = .returned (.int .i64 ((k0 + m + j : Nat) : Int)) ∧ Below w.heap.size w w' := by
 have S1 : Hid (Sl w v (ss (Strs.mts k0 m))) := h9
 have T1 : Hid (Sl w vb (bs (marks (k0 + m) j))) := h5
 obtain ⟨ao0, cap0, rfl, hc0⟩ := h9.form
 obtain ⟨ao1, cap1, rfl, hc1⟩ := h5.form
 simp only [ss_len, bs_len, Strs.mts_len, marks_len] at *
 have q1 : ∀ W v1, Sl W v1 (ss (Strs.mts k0 m)) → _ := fun W v1 h1 => held_log W n v1 m k0 h1 (by omega) hk1 (by omega)
 obtain ⟨m1, hm1⟩ : ∃ m9 : Int, ((k0 + m : Nat) : Int) = m9 := ⟨_, rfl⟩
 have q2 : ∀ W v1, Sl W v1 (bs (marks (k0 + m) j)) → _ := fun W v1 h1 => held_any W v1 j (k0 + m) h1 (by omega) (by omega)
 obtain ⟨m2, hm2⟩ : ∃ m9 : Int, ((k0 + m + j : Nat) : Int) = m9 := ⟨_, rfl⟩
 have d1 : ¬ m1 < 0 := by omega
 have d2 : ¬ m2 < 0 := by omega
 simp only [hm1, hm2] at q2
 simp only [hm1] at q1
 rw [hm2]
 clear hm1 hm2 h9 h5
 have B0 : Hid (Below w.heap.size w w) := Below.refl _ _
 obtain ⟨W1, HW1, b1, y1, hS1, r_a1⟩ := Ke.l1 w #[.slice ao0 m cap0, .int .i64 n.n, .string n.r, .slice ao1 j cap1, .int .i64 s] 29
 have z1 := b1.size
 have B1 := Ke.b B0 b1
 go_enter Tryd.func18, Tryd.ntmps18
 go_wp2_with fail
 rw [HW1.out]
 refine (q1 W1 _ (S1.out.later B1.out)).mono ?_
 rintro e W2 ⟨rfl, b2⟩
 have z2 := b2.size
 have B2 := Ke.b B1 b2
 have r_a2 := Ke.r r_a1 b2
 have c_a2 := Ke.c r_a2
 clear r_a1
 go_wp2_with fail
 refine (q2 W2 _ (T1.out.later B2.out)).mono ?_
 rintro e W_ ⟨rfl, hW_⟩
 have hW_ := hW_.symm
 subst hW_
 go_wp2
 go_ret
 exact ⟨rfl, B2.out⟩
end Go.Proofs.YtchonoonclllbaaDoor.Sr
namespace Go.Proofs.YtchonoonclllbaaDoor.Mi
open Go.RowKit Go.Proofs.YtchonoonclllbaaDoor.Mem Go.Proofs.YtchonoonclllbaaDoor.Laws Go.Proofs.YtchonoonclllbaaDoor.Bytes Go.Proofs.YtchonoonclllbaaDoor.Sha Go.Proofs.YtchonoonclllbaaDoor.Tr Go.Proofs.YtchonoonclllbaaDoor.He Go.Proofs.YtchonoonclllbaaDoor.Lg Go.Proofs.YtchonoonclllbaaDoor.Sr Go.Proofs.YtchonoonclllbaaDoor.Mg
set_option linter.unusedVariables false
set_option linter.unusedSimpArgs false
set_option maxRecDepth 1000000 in
set_option maxHeartbeats 16000000 in
theorem eq_mirror (w : World) (v1 v2 b1 b2 : Value) (id : Int) (l : List ByteArray) (h : Hd) (b : List Int) (s : Int) (g : Hd) (s1 : Sl w v1 (ss l)) (s2 : Sl w v2 (ss l)) (t1 : Sl w b1 (bs b)) (t2 : Sl w b2 (bs b)) (hl : l.length ≤ 1000000000) (hbl : b.length ≤ 1000000000) :
  Calls Tryd.prog 6 #[.agg #[.int .i64 id, v1, .int .i64 h.n, .string h.r, b1, .int .i64 s, .int .i64 g.n, .string g.r], .agg #[.int .i64 id, v2, .int .i64 h.n, .string h.r, b2, .int .i64 s, .int .i64 g.n, .string g.r]] w fun e w' => e = .returned (.bool true) ∧ Below w.heap.size w w' := by
 have S1 : Hid (Sl w v1 (ss l)) := s1
 have S2 : Hid (Sl w v2 (ss l)) := s2
 have T1 : Hid (Sl w b1 (bs b)) := t1
 have T2 : Hid (Sl w b2 (bs b)) := t2
 obtain ⟨ao0, cap0, rfl, hc0⟩ := s1.form
 obtain ⟨ao1, cap1, rfl, hc1⟩ := t1.form
 obtain ⟨ao2, cap2, rfl, hc2⟩ := s2.form
 obtain ⟨ao3, cap3, rfl, hc3⟩ := t2.form
 simp only [ss_len, bs_len] at *
 have n1 : (id != id) = false := by simp
 have n2 : (id == id) = true := by simp
 clear s1 s2 t1 t2
 have B0 : Hid (Below w.heap.size w w) := Below.refl _ _
 obtain ⟨W1, HW1, b1, y1, hS1, r_a1, r_b1⟩ := Ke.l2 w #[.int .i64 id, .slice ao0 l.length cap0, .int .i64 h.n, .string h.r, .slice ao1 b.length cap1, .int .i64 s, .int .i64 g.n, .string g.r] 31 #[.int .i64 id, .slice ao2 l.length cap2, .int .i64 h.n, .string h.r, .slice ao3 b.length cap3, .int .i64 s, .int .i64 g.n, .string g.r] 31
 have z1 := b1.size
 have B1 := Ke.b B0 b1
 have c_a1 := Ke.c r_a1
 have c_b1 := Ke.c r_b1
 go_enter Tryd.func6, Tryd.ntmps6
 go_wp2_with fail
 rw [HW1.out]
 refine (eq_store W1 _ _ _ _ l h b s (S1.out.later B1.out) (S2.out.later B1.out) (T1.out.later B1.out) (T2.out.later B1.out) (by omega) (by omega)).mono ?_
 rintro e W2 ⟨rfl, b2⟩
 have z2 := b2.size
 have B2 := Ke.b B1 b2
 have r_a2 := Ke.r r_a1 b2
 have r_b2 := Ke.r r_b1 b2
 have c_a2 := Ke.c r_a2
 have c_b2 := Ke.c r_b2
 clear r_a1 c_a1 r_b1 c_b1
 go_wp2_with fail
 refine (eq_head W2 g).mono ?_
 rintro e W3 ⟨rfl, b3⟩
 have z3 := b3.size
 have B3 := Ke.b B2 b3
 have r_a3 := Ke.r r_a2 b3
 have r_b3 := Ke.r r_b2 b3
 have c_a3 := Ke.c r_a3
 have c_b3 := Ke.c r_b3
 clear r_a2 c_a2 r_b2 c_b2
 go_wp2
 go_ret
 exact ⟨rfl, B3.out⟩
set_option maxRecDepth 1000000 in
set_option maxHeartbeats 16000000 in
theorem mark_mirror (w : World) (id : Int) (n : Hd) (g : Hd) (v vb : Value) (s : Int) (l1 h1 l2 h2 : Nat) (l : List ByteArray) (b : List Int) (k0 : Nat) (h9 : Own w l1 h1 9 v (ss l)) (h5 : Own w l2 h2 5 vb (bs b)) (d : h1 ≤ l2 ∨ h2 ≤ l1) (e1 : h1 ≤ w.heap.size) (e2 : h2 ≤ w.heap.size) (hx : l.length ≤ 100000000) (hb : b.length ≤ 100000000) (hk1 : 1 ≤ k0) (hk0 : k0 ≤ 100000000) :
  Calls Tryd.prog 7 #[.agg #[.int .i64 id, v, .int .i64 n.n, .string n.r, vb, .int .i64 s, .int .i64 g.n, .string g.r], .int .i64 (k0 : Int)] w fun e w' => e = .returned (.int .i64 ((k0 + l.length + b.length : Nat) : Int)) ∧ Own w' l1 h1 9 v (ss (Strs.mts k0 l.length)) ∧ Own w' l2 h2 5 vb (bs (marks (k0 + l.length) b.length)) ∧ Apart2 l1 h1 l2 h2 w w' := by
 obtain ⟨ao0, L0, cap0, rfl, _, _⟩ := h9.form
 obtain ⟨ao1, L1, cap1, rfl, _, _⟩ := h5.form
 obtain ⟨W1, HW1, b1, y1, hS1, r1⟩ := Ke.l1 w #[.int .i64 id, .slice ao0 L0 cap0, .int .i64 n.n, .string n.r, .slice ao1 L1 cap1, .int .i64 s, .int .i64 g.n, .string g.r] 31
 have q1 := mark_store W1 n _ _ s l1 h1 l2 h2 l b k0 (h9.later b1 e1) (h5.later b1 e2) d (by omega) (by omega) hx hb hk1 hk0
 have A1 : Hid (Apart l1 h1 w W1) := (Apart.refl l1 h1 w).grow b1
 have c1 := Ke.c r1
 obtain ⟨m2, hm2⟩ : ∃ m : Int, ((k0 + l.length + b.length : Nat) : Int) = m := ⟨_, rfl⟩
 rw [hm2] at q1
 rw [hm2]
 clear hm2 h9 h5
 go_enter Tryd.func7, Tryd.ntmps7
 go_wp2_with fail
 rw [HW1.out]
 refine q1.mono ?_
 rintro e W2 ⟨rfl, o92, o52, p2⟩
 have O92 : Hid _ := o92
 have O52 : Hid _ := o52
 have A2 : Hid (Apart2 l1 h1 l2 h2 w W2) := by
  obtain ⟨m, a, b⟩ := p2
  exact ⟨m, A1.out.trans a, b⟩
 clear q1 r1 c1 A1 o92 o52 p2
 go_wp2
 go_ret
 exact ⟨rfl, O92.out, O52.out, A2.out⟩
set_option maxRecDepth 1000000 in
set_option maxHeartbeats 16000000 in
theorem held_mirror (w : World) (id : Int) (n : Hd) (g : Hd) (v vb : Value) (s : Int) (m j k0 : Nat) (h9 : Sl w v (ss (Strs.mts k0 m))) (h5 : Sl w vb (bs (marks (k0 + m) j))) (hx : m ≤ 100000000) (hb : j ≤ 100000000) (hk1 : 1 ≤ k0) (hk0 : k0 ≤ 100000000) :
  Calls Tryd.prog 8 #[.agg #[.int .i64 id, v, .int .i64 n.n, .string n.r, vb, .int .i64 s, .int .i64 g.n, .string g.r], .int .i64 (k0 : Int)] w fun e w' => e = .returned (.int .i64 ((k0 + m + j : Nat) : Int)) ∧ Below w.heap.size w w' := by
 have S1 : Hid (Sl w v (ss (Strs.mts k0 m))) := h9
 have T1 : Hid (Sl w vb (bs (marks (k0 + m) j))) := h5
 obtain ⟨ao0, cap0, rfl, hc0⟩ := h9.form
 obtain ⟨ao1, cap1, rfl, hc1⟩ := h5.form
 simp only [ss_len, bs_len, Strs.mts_len, marks_len] at *
 have q1 : ∀ W v1 v2, Sl W v1 (ss (Strs.mts k0 m)) → Sl W v2 (bs (marks (k0 + m) j)) → _ := fun W v1 v2 h1 h2 => held_store W n v1 v2 s m j k0 h1 h2 hx hb hk1 hk0
 obtain ⟨m2, hm2⟩ : ∃ m9 : Int, ((k0 + m + j : Nat) : Int) = m9 := ⟨_, rfl⟩
 have d2 : ¬ m2 < 0 := by omega
 simp only [hm2] at q1
 rw [hm2]
 clear hm2 h9 h5
 have B0 : Hid (Below w.heap.size w w) := Below.refl _ _
 obtain ⟨W1, HW1, b1, y1, hS1, r_a1⟩ := Ke.l1 w #[.int .i64 id, .slice ao0 m cap0, .int .i64 n.n, .string n.r, .slice ao1 j cap1, .int .i64 s, .int .i64 g.n, .string g.r] 31
 have z1 := b1.size
 have B1 := Ke.b B0 b1
 have c_a1 := Ke.c r_a1
 go_enter Tryd.func8, Tryd.ntmps8
 go_wp2_with fail
 rw [HW1.out]
 refine (q1 W1 _ _ (S1.out.later B1.out) (T1.out.later B1.out)).mono ?_
 rintro e W2 ⟨rfl, b2⟩
 have z2 := b2.size
 have B2 := Ke.b B1 b2
 have r_a2 := Ke.r r_a1 b2
 have c_a2 := Ke.c r_a2
 clear r_a1 c_a1
 go_wp2
 go_ret
 exact ⟨rfl, B2.out⟩
end Go.Proofs.YtchonoonclllbaaDoor.Mi
namespace Go.Proofs.YtchonoonclllbaaDoor.Sha
open Go.RowKit Go.Proofs.YtchonoonclllbaaDoor.Mem Go.Proofs.YtchonoonclllbaaDoor.Laws Go.Proofs.YtchonoonclllbaaDoor.Bytes
set_option linter.unusedVariables false
set_option linter.unusedSimpArgs false
theorem wraps32 (n : Int) (h0 : 0 ≤ n) (h1 : n < 2 ^ 32) : IntKind.u32.wrap n = n := by rw [IntKind.wrap_u32]; omega
theorem or32 {a b : Nat} (ha : a < 4294967296) (hb : b < 4294967296) : bits .or .u32 (a : Int) (b : Int) = ((a ||| b : Nat) : Int) := (bits_nat .u32 32 (by decide) wraps32 a b ha hb).2
theorem and32 {a b : Nat} (ha : a < 4294967296) (hb : b < 4294967296) : bits .and .u32 (a : Int) (b : Int) = ((a &&& b : Nat) : Int) := (bits_nat .u32 32 (by decide) wraps32 a b ha hb).1
theorem xor32 {a b : Nat} (ha : a < 4294967296) (hb : b < 4294967296) : bits .xor .u32 (a : Int) (b : Int) = ((a ^^^ b : Nat) : Int) := by
 have ha' : a % 2 ^ 32 = a := Nat.mod_eq_of_lt (by omega)
 have hb' : b % 2 ^ 32 = b := Nat.mod_eq_of_lt (by omega)
 have e : bits .xor .u32 (a : Int) (b : Int) = IntKind.u32.wrap (((BitVec.ofInt 32 (a : Int) ^^^ BitVec.ofInt 32 (b : Int)).toNat : Nat) : Int) := rfl
 rw [e, BitVec.ofInt_natCast, BitVec.ofInt_natCast, BitVec.toNat_xor, BitVec.toNat_ofNat, BitVec.toNat_ofNat, ha', hb']
 exact wraps32 _ (Int.natCast_nonneg _) (by have := Nat.xor_lt_two_pow (n := 32) ha hb; omega)
theorem turn_split (x n : Nat) (hx : x < 4294967296) : turn x n = (x * 2 ^ (32 - n) % 4294967296 ||| x / 2 ^ n) := by
 unfold turn
 have hd : x / 2 ^ n < 2 ^ 32 := Nat.lt_of_le_of_lt (Nat.div_le_self _ _) hx
 rw [show (4294967296 : Nat) = 2 ^ 32 by decide, Nat.or_mod_two_pow, Nat.mod_eq_of_lt hd, Nat.or_comm]
set_option maxRecDepth 1000000 in
set_option maxHeartbeats 400000 in
theorem rot_impl (w : World) (x n : Nat) (k : Int) (hk : bits .and .u64 (IntKind.u64.wrap k) 31 = ((32 - n : Nat) : Int)) (hx : x < 4294967296) (hn1 : 1 ≤ n) (hn2 : n ≤ 31) :
  Calls Tryd.prog 64 #[.int .u32 (x : Int), .int .i64 k] w fun e w' => e = .returned (.int .u32 (turn x n : Nat)) ∧ w = w' := by
 go_enter Tryd.func64, Tryd.ntmps64
 go_wp2
 go_ret
 refine ⟨congrArg (fun z => Ending.returned (.int .u32 z)) ?_, rfl⟩
 have e1 : (x : Int) * 2 ^ (32 - n) % 4294967296 = ((x * 2 ^ (32 - n) % 4294967296 : Nat) : Int) := by rw [Int.natCast_emod, Int.natCast_mul, Int.natCast_pow]; rfl
 have e2 : (x : Int) / 2 ^ (32 - (32 - n)) = ((x / 2 ^ n : Nat) : Int) := by rw [show 32 - (32 - n) = n by omega, Int.natCast_ediv, Int.natCast_pow]; rfl
 have hd : x / 2 ^ n < 4294967296 := Nat.lt_of_le_of_lt (Nat.div_le_self _ _) hx
 show bits .or .u32 ((x : Int) * 2 ^ (32 - n) % 4294967296) ((x : Int) / 2 ^ (32 - (32 - n))) = _
 rw [e1, e2, or32 (Nat.mod_lt _ (by decide)) hd, turn_split x n hx]
set_option maxRecDepth 1000000 in
set_option maxHeartbeats 400000 in
theorem turn_impl (w : World) (x n : Nat) (k : Int) (hkn : k = (n : Int)) (hk : bits .and .u64 (IntKind.u64.wrap (-k)) 31 = ((32 - n : Nat) : Int)) (hx : x < 4294967296) (hn1 : 1 ≤ n) (hn2 : n ≤ 31) :
  Calls Tryd.prog 61 #[.int .u32 (x : Int), .int .i64 k] w fun e w' => e = .returned (.int .u32 (turn x n : Nat)) ∧ w = w' := by
 have hk0 : 0 ≤ k := by omega
 have hk1 : k ≤ 31 := by omega
 have hr := rot_impl w x n (-k) hk hx hn1 hn2
 have hw : IntKind.i64.wrap (-k) = -k := by rw [IntKind.wrap_i64]; omega
 clear hk hkn
 go_enter Tryd.func61, Tryd.ntmps61
 go_wp2_with fail
 refine hr.mono ?_
 rintro e w' ⟨rfl, rfl⟩
 go_wp2
 go_ret
 exact ⟨rfl, rfl⟩
set_option maxRecDepth 1000000 in
set_option maxHeartbeats 400000 in
theorem s0_impl (w : World) (x : Nat) (hx : x < 4294967296) : Calls Tryd.prog 59 #[.int .u32 (x : Int)] w fun e w' => e = .returned (.int .u32 (s0w x : Nat)) ∧ w = w' := by
 have q1 := turn_impl w x 7 7 rfl (by decide) hx (by omega) (by omega)
 have q2 := turn_impl w x 18 18 rfl (by decide) hx (by omega) (by omega)
 have HB : Hid (bits .xor .u32 (bits .xor .u32 ((turn x 7 : Nat) : Int) ((turn x 18 : Nat) : Int)) ((x : Int) / 8) = ((s0w x : Nat) : Int)) := by
  show _ = _
  have e : (x : Int) / 8 = ((x / 8 : Nat) : Int) := by omega
  rw [e, xor32 (turn_lt _ _) (turn_lt _ _), xor32 (xl (turn_lt _ _) (turn_lt _ _)) (by omega)]; rfl
 go_enter Tryd.func59, Tryd.ntmps59
 go_wp2_with fail
 refine q1.mono ?_
 rintro e w' ⟨rfl, rfl⟩
 go_wp2_with fail
 refine q2.mono ?_
 rintro e w' ⟨rfl, rfl⟩
 go_wp2
 go_ret
 exact ⟨congrArg (fun z => Ending.returned (.int .u32 z)) HB.out, rfl⟩
set_option maxRecDepth 1000000 in
set_option maxHeartbeats 400000 in
theorem s1_impl (w : World) (x : Nat) (hx : x < 4294967296) : Calls Tryd.prog 60 #[.int .u32 (x : Int)] w fun e w' => e = .returned (.int .u32 (s1w x : Nat)) ∧ w = w' := by
 have q1 := turn_impl w x 17 17 rfl (by decide) hx (by omega) (by omega)
 have q2 := turn_impl w x 19 19 rfl (by decide) hx (by omega) (by omega)
 have HB : Hid (bits .xor .u32 (bits .xor .u32 ((turn x 17 : Nat) : Int) ((turn x 19 : Nat) : Int)) ((x : Int) / 1024) = ((s1w x : Nat) : Int)) := by
  show _ = _
  have e : (x : Int) / 1024 = ((x / 1024 : Nat) : Int) := by omega
  rw [e, xor32 (turn_lt _ _) (turn_lt _ _), xor32 (xl (turn_lt _ _) (turn_lt _ _)) (by omega)]; rfl
 go_enter Tryd.func60, Tryd.ntmps60
 go_wp2_with fail
 refine q1.mono ?_
 rintro e w' ⟨rfl, rfl⟩
 go_wp2_with fail
 refine q2.mono ?_
 rintro e w' ⟨rfl, rfl⟩
 go_wp2
 go_ret
 exact ⟨congrArg (fun z => Ending.returned (.int .u32 z)) HB.out, rfl⟩
set_option maxRecDepth 1000000 in
set_option maxHeartbeats 400000 in
theorem b0_impl (w : World) (x : Nat) (hx : x < 4294967296) : Calls Tryd.prog 56 #[.int .u32 (x : Int)] w fun e w' => e = .returned (.int .u32 (big0 x : Nat)) ∧ w = w' := by
 have q1 := turn_impl w x 2 2 rfl (by decide) hx (by omega) (by omega)
 have q2 := turn_impl w x 13 13 rfl (by decide) hx (by omega) (by omega)
 have q3 := turn_impl w x 22 22 rfl (by decide) hx (by omega) (by omega)
 have HB : Hid (bits .xor .u32 (bits .xor .u32 ((turn x 2 : Nat) : Int) ((turn x 13 : Nat) : Int)) ((turn x 22 : Nat) : Int) = ((big0 x : Nat) : Int)) := by
  show _ = _
  rw [xor32 (turn_lt _ _) (turn_lt _ _), xor32 (xl (turn_lt _ _) (turn_lt _ _)) (turn_lt _ _)]; rfl
 go_enter Tryd.func56, Tryd.ntmps56
 go_wp2_with fail
 refine q1.mono ?_
 rintro e w' ⟨rfl, rfl⟩
 go_wp2_with fail
 refine q2.mono ?_
 rintro e w' ⟨rfl, rfl⟩
 go_wp2_with fail
 refine q3.mono ?_
 rintro e w' ⟨rfl, rfl⟩
 go_wp2
 go_ret
 exact ⟨congrArg (fun z => Ending.returned (.int .u32 z)) HB.out, rfl⟩
set_option maxRecDepth 1000000 in
set_option maxHeartbeats 400000 in
theorem b1_impl (w : World) (x : Nat) (hx : x < 4294967296) : Calls Tryd.prog 54 #[.int .u32 (x : Int)] w fun e w' => e = .returned (.int .u32 (big1 x : Nat)) ∧ w = w' := by
 have q1 := turn_impl w x 6 6 rfl (by decide) hx (by omega) (by omega)
 have q2 := turn_impl w x 11 11 rfl (by decide) hx (by omega) (by omega)
 have q3 := turn_impl w x 25 25 rfl (by decide) hx (by omega) (by omega)
 have HB : Hid (bits .xor .u32 (bits .xor .u32 ((turn x 6 : Nat) : Int) ((turn x 11 : Nat) : Int)) ((turn x 25 : Nat) : Int) = ((big1 x : Nat) : Int)) := by
  show _ = _
  rw [xor32 (turn_lt _ _) (turn_lt _ _), xor32 (xl (turn_lt _ _) (turn_lt _ _)) (turn_lt _ _)]; rfl
 go_enter Tryd.func54, Tryd.ntmps54
 go_wp2_with fail
 refine q1.mono ?_
 rintro e w' ⟨rfl, rfl⟩
 go_wp2_with fail
 refine q2.mono ?_
 rintro e w' ⟨rfl, rfl⟩
 go_wp2_with fail
 refine q3.mono ?_
 rintro e w' ⟨rfl, rfl⟩
 go_wp2
 go_ret
 exact ⟨congrArg (fun z => Ending.returned (.int .u32 z)) HB.out, rfl⟩
set_option maxRecDepth 1000000 in
set_option maxHeartbeats 400000 in
theorem ch_impl (w : World) (e f g : Nat) (he : e < 4294967296) (hf : f < 4294967296) (hg : g < 4294967296) : Calls Tryd.prog 55 #[.int .u32 (e : Int), .int .u32 (f : Int), .int .u32 (g : Int)] w fun e' w' => e' = .returned (.int .u32 (ch e f g : Nat)) ∧ w = w' := by
 have HB : Hid (bits .xor .u32 (bits .and .u32 (e : Int) (f : Int)) (bits .and .u32 (bits .xor .u32 4294967295 (e : Int)) (g : Int)) = ((ch e f g : Nat) : Int)) := by
  show _ = _
  have e0 : (4294967295 : Int) = ((4294967295 : Nat) : Int) := rfl
  rw [e0, xor32 (by omega) he, and32 he hf, and32 (xl (by omega) he) hg, xor32 (al hf) (al hg)]; rfl
 go_enter Tryd.func55, Tryd.ntmps55
 go_wp2
 go_ret
 exact ⟨congrArg (fun z => Ending.returned (.int .u32 z)) HB.out, rfl⟩
set_option maxRecDepth 1000000 in
set_option maxHeartbeats 400000 in
theorem maj_impl (w : World) (a b c : Nat) (ha : a < 4294967296) (hb : b < 4294967296) (hc : c < 4294967296) : Calls Tryd.prog 57 #[.int .u32 (a : Int), .int .u32 (b : Int), .int .u32 (c : Int)] w fun e' w' => e' = .returned (.int .u32 (maj a b c : Nat)) ∧ w = w' := by
 have HB : Hid (bits .xor .u32 (bits .xor .u32 (bits .and .u32 (a : Int) (b : Int)) (bits .and .u32 (a : Int) (c : Int))) (bits .and .u32 (b : Int) (c : Int)) = ((maj a b c : Nat) : Int)) := by
  show _ = _
  rw [and32 ha hb, and32 ha hc, and32 hb hc, xor32 (al hb) (al hc), xor32 (xl (al hb) (al hc)) (al hc)]; rfl
 go_enter Tryd.func57, Tryd.ntmps57
 go_wp2
 go_ret
 exact ⟨congrArg (fun z => Ending.returned (.int .u32 z)) HB.out, rfl⟩
theorem set_mid {α : Type} (A : List α) (k : Nat) (z c : α) (B : List α) (p : Nat) (hp : p = A.length + k) : (A ++ List.replicate (k + 1) z ++ B).set p c = A ++ List.replicate k z ++ (c :: B) := by
 subst hp
 rw [List.append_assoc, List.set_append_right _ _ (by omega), Nat.add_sub_cancel_left, List.replicate_succ', List.append_assoc, List.set_append_right _ _ (by simp)]
 simp
theorem drop_be8 (n t : Nat) (ht : t < 8) : (be8 n).drop (8 - (t + 1)) = ((n : Int) / 2 ^ (8 * t) % 256) :: (be8 n).drop (8 - t) := by
 have h := be8_get n (8 - (t + 1)) (by omega)
 obtain ⟨h1, h2⟩ := List.getElem?_eq_some_iff.1 h
 rw [List.drop_eq_getElem_cons h1, h2, show 56 - 8 * (8 - (t + 1)) = 8 * t by omega, show 8 - (t + 1) + 1 = 8 - t by omega]
set_option maxRecDepth 1000000 in
set_option maxHeartbeats 1000000 in
theorem padded_impl (w : World) (v : Value) (xs : List Int) (h : Sl w v (bs xs)) (hx : xs.length ≤ 1000000000000) :
  Calls Tryd.prog 45 #[v] w fun e w' => ∃ v', e = .returned v' ∧ Own w' w.heap.size w'.heap.size 5 v' (bs (padded xs)) ∧ Below w.heap.size w w' := by
 obtain ⟨i0, hi, hz0, hz1, hz2⟩ := info_parts info5
 have hlater : ∀ w', Below w.heap.size w w' → Sl w' v (bs xs) := fun w' hb => h.later hb
 obtain ⟨ao, cap, rfl, hc, _, hr⟩ := h
 rw [bs_len] at hr hc hlater
 rw [bs_len]
 obtain ⟨Z, hZ⟩ : ∃ Z : Nat, (64 - ((xs.length : Int) + 9) % 64) % 64 = (Z : Int) := ⟨((64 - ((xs.length : Int) + 9) % 64) % 64).toNat, by omega⟩
 have hZb : Z < 64 := by omega
 have HZ : Hid (Z = zc xs.length) := by show _ = _; unfold zc; omega
 obtain ⟨N, hN⟩ : ∃ N : Nat, (xs.length : Int) + 9 + (Z : Int) = (N : Int) := ⟨xs.length + 9 + Z, by omega⟩
 have HN : Hid (N = xs.length + 9 + Z) := by show _ = _; omega
 have hNb : N ≤ xs.length + 73 := by omega
 have hNb2 : xs.length + 9 ≤ N := by omega
 go_enter Tryd.func45, Tryd.ntmps45
 go_wp2_with (first | (at_make; refine wpList_make_full _ rfl _ _ 27 rfl w.heap.size 5 i0 (.int .u8 0) 1 Tryd.underlying27 hi hz0 hz1 _ _ _ _ N rfl rfl rfl rfl (by rw [hz2]; omega) (by unfold maxLen; omega) (Nat.le_refl _) ?_))
 intro w1 hown hgrow
 rw [toList_madeCells_one] at hown
 have hbel : Below w.heap.size w w1 := (Below.refl _ _).grown hgrow (Nat.le_refl _) (by simp)
 have hblk := full_block hown
 obtain ⟨L, hL⟩ : ∃ L, L = List.replicate N (Value.int .u8 0) := ⟨_, rfl⟩
 rw [← hL] at hblk
 have HL : Hid (L = List.replicate N (Value.int .u8 0) ∧ L.length = N) := ⟨hL, by rw [hL]; simp⟩
 obtain ⟨C, hC⟩ : ∃ C, C = bs xs := ⟨_, rfl⟩
 have HC : Hid (C = bs xs ∧ C.length = xs.length) := ⟨hC, by rw [hC, bs_len]⟩
 have hsz : (Tryd.prog.info? 5).map (·.size) = some 1 := by rw [hi]; simp [hz1]
 obtain ⟨ao', cap', he, _, _, hr'⟩ := hlater w1 hbel
 rw [bs_len] at he hr'
 simp only [Value.slice.injEq] at he
 obtain ⟨rfl, _, rfl⟩ := he
 have HS : Hid (0 < C.length → ∃ ad, ao = some ad ∧ ∀ j u, C[j]? = some u → w1.cell? (ad.add j) = some u) := by
  intro hp
  rw [HC.out.2] at hp
  obtain ⟨b, off, rfl, hcell⟩ := hr' hp
  refine ⟨_, rfl, fun j u hj => ?_⟩
  rw [Addr.add_lit, hcell j (by have := (List.getElem?_eq_some_iff.1 hj).1; rw [HC.out.2] at this; exact this), ← HC.out.1]
  exact hj
 have HO : Hid (∀ u ∈ C, u.oneCell' = true) := by show ∀ u ∈ C, u.oneCell' = true; rw [hC]; exact bs_one _
 have hmin : C.length = Nat.min xs.length N := HC.out.2.trans (Nat.min_eq_left (by omega)).symm
 have HM : Hid (C.length = Nat.min xs.length N) := hmin
 clear hown hgrow hL hC hr hr' hmin hlater
 go_wp2_with (refine wpList_copy_splice rfl (.tmp 22) (.tmp 23) 27 27 rfl 5 Tryd.underlying27 hsz _ _ _ _ _ _ rfl rfl w.heap.size 0 L 5 hblk C HM.out (fun hp => ⟨rfl, HS.out hp⟩) (by rw [HC.out.2, HL.out.2]; omega) HO.out w.heap.size w hbel (Nat.le_refl _) ?_)
 intro w2 hg2 hb2
 obtain ⟨L2, hL2⟩ : ∃ L2, L2 = bs xs ++ List.replicate (9 + Z) (Value.int .u8 0) := ⟨_, rfl⟩
 have hL2l : L2.length = N := by rw [hL2]; simp [bs]; omega
 have hown2 : w2.ownsRow w.heap.size 5 1 (.slice (some ⟨w.heap.size, 0, none⟩) N N) N L2 := by
  have hfin := hg2.out
  have e2 : splice L 0 C = L2 := by
   rw [hL2, HL.out.1, HC.out.1]
   unfold splice
   simp [bs]
   omega
  rw [e2] at hfin
  exact full_own hfin (Nat.le_refl _) hL2l (by unfold maxLen; omega)
 obtain ⟨u, hu⟩ : ∃ u, w2.cell? ⟨w.heap.size, xs.length, none⟩ = some u := ⟨L2[xs.length]'(by omega), by rw [hown2.cellAt xs.length (by omega)]; simp⟩
 have hf := hown2.frozenAt xs.length
 obtain ⟨R, hR⟩ : ∃ R : Nat → List Int, R = fun t => xs ++ [128] ++ List.replicate (Z + 8 - t) 0 ++ (be8 (xs.length * 8)).drop (8 - t) := ⟨_, rfl⟩
 have HR0 : Hid (L2.set xs.length (.int .u8 128) = bs (R 0)) := by
  show _ = _
  rw [hL2, hR, show 9 + Z = (Z + 8 - 0) + 1 by omega, List.replicate_succ, List.set_append_right _ _ (by rw [bs_len]; omega), bs_len, Nat.sub_self]
  simp [bs, be8]
 have HRn : Hid (∀ t, t < 8 → (bs (R t)).set (N - 1 - t) (.int .u8 (((xs.length * 8 : Nat) : Int) / 2 ^ (8 * t) % 256)) = bs (R (t + 1))) := by
  intro t ht
  rw [hR]
  show (bs (xs ++ [128] ++ List.replicate (Z + 8 - t) 0 ++ (be8 (xs.length * 8)).drop (8 - t))).set _ _ = bs (xs ++ [128] ++ List.replicate (Z + 8 - (t + 1)) 0 ++ (be8 (xs.length * 8)).drop (8 - (t + 1)))
  rw [drop_be8 _ t ht, show Z + 8 - t = (Z + 8 - (t + 1)) + 1 by omega, ← set_mid (xs ++ [128]) (Z + 8 - (t + 1)) 0 _ _ (N - 1 - t) (by simp; omega)]
  simp [bs, List.map_set]
 have HRl : Hid (∀ t, t ≤ 8 → (bs (R t)).length = N) := by
  intro t ht
  rw [hR, bs_len]
  simp [be8]
  omega
 have HR8 : Hid (R 8 = padded xs) := by
  show _ = _
  rw [hR]
  simp [padded, HZ.out]
 have HS2 : Hid ((w2.setCell ⟨w.heap.size, xs.length, none⟩ (.int .u8 128)).ownsRow w.heap.size 5 1 (.slice (some ⟨w.heap.size, 0, none⟩) N N) N (bs (R 0))) := by
  have := (hown2.stored xs.length (.int .u8 128)).1
  rw [HR0.out] at this
  exact this
 clear hR hL2 hL2l hown2 HR0 hg2 hbel hblk hsz
 go_wp2
 go_loopw [33] (fun i wr => ∃ t : Nat, t ≤ 8 ∧ i = .int .i64 (t : Int) ∧ wr.ownsRow w.heap.size 5 1 (.slice (some ⟨w.heap.size, 0, none⟩) N N) N (bs (R t)) ∧ Below w.heap.size w wr) (fun i _ => 8 - (intOf i).toNat)
 case atStart => exact ⟨0, by omega, rfl, HS2.out, hb2.setCell (Nat.le_refl _) _⟩
 case round =>
  obtain ⟨t, ht, rfl, ho, hb⟩ := hrel
  clear hu hf HS2
  by_cases hlt : t < 8
  ·
   obtain ⟨u, hu⟩ : ∃ u, wr.cell? ⟨w.heap.size, N - 1 - t, none⟩ = some u := ⟨(bs (R t))[N - 1 - t]'(by rw [HRl.out t ht]; omega), by rw [ho.cellAt (N - 1 - t) (by omega)]; simp⟩
   have hf := ho.frozenAt (N - 1 - t)
   have hst := (ho.stored (N - 1 - t) (.int .u8 (((xs.length * 8 : Nat) : Int) / 2 ^ (8 * t) % 256))).1
   rw [HRn.out t hlt, show ((xs.length * 8 : Nat) : Int) = (xs.length : Int) * 8 by omega] at hst
   have HS3 : Hid _ := hst
   have t0 : ((N : Int) - 1 - (t : Int)).toNat = N - 1 - t := by omega
   clear hst
   go_wp2
   go_roundw
   case rel => exact ⟨t + 1, by omega, by go_num, HS3.out, hb.setCell (Nat.le_refl _) _⟩
   case measure => simp [intOf]; omega
  ·
   have ht8 : t = 8 := by omega
   subst ht8
   rw [HR8.out] at ho
   go_wp2
   go_ret
   exact ⟨_, rfl, Own.of ho, hb⟩
theorem quiet_eq {P : Program} {f : FuncId} {args : Array Value} {w : World} {n : Nat} {v : Value}
  (h : Calls P f args (w.drewN n) fun e w' => e = .returned v ∧ w.drewN n = w') : Calls P f args (w.drewN n) fun e w'' => e = .returned v ∧ ∃ m, w'' = w.drewN m :=
 h.mono fun _ _ ⟨he, hm⟩ => ⟨he, n, hm.symm⟩
end Go.Proofs.YtchonoonclllbaaDoor.Sha
