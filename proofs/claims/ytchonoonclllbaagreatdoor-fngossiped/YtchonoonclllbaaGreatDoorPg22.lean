/- Texts in one: Mi3. -/
import Derived.Test.YtchonoonclllbaaGreatDoorPg6
import Derived.Test.YtchonoonclllbaaGreatDoorPg15
import Derived.Test.YtchonoonclllbaaGreatDoorPg21
namespace Go.Proofs.YtchonoonclllbaaGreatDoor.Mi
open Go.RowKit Go.Proofs.YtchonoonclllbaaGreatDoor.Mem Go.Proofs.YtchonoonclllbaaGreatDoor.Laws Go.Proofs.YtchonoonclllbaaGreatDoor.Bytes Go.Proofs.YtchonoonclllbaaGreatDoor.Sha Go.Proofs.YtchonoonclllbaaGreatDoor.Tr Go.Proofs.YtchonoonclllbaaGreatDoor.He Go.Proofs.YtchonoonclllbaaGreatDoor.Lg Go.Proofs.YtchonoonclllbaaGreatDoor.Sr Go.Proofs.YtchonoonclllbaaGreatDoor.Mg
set_option linter.unusedVariables false
set_option linter.unusedSimpArgs false
set_option maxRecDepth 1000000 in
set_option maxHeartbeats 16000000 in
theorem another_spec (w : World) (v vb : Value) (m : Mr) (to : Int) (hs : Sl w v (ss m.st.l)) (hb : Sl w vb (bs m.st.b)) :
  Calls Tryz.prog 120 #[.agg #[.int .i64 m.id, v, .int .i64 m.st.h.n, .string m.st.h.r, vb, .int .i64 m.st.s, .int .i64 m.b.n, .string m.b.r], .int .i64 to] w fun e w' => e = .returned (.bool (another m to)) ∧ Below w.heap.size w w' := by
 obtain ⟨R, hR⟩ : ∃ R, another m to = R := ⟨_, rfl⟩
 have HR : Hid (another m to = R) := hR
 rw [hR]
 obtain ⟨id, ⟨l, h, b, s⟩, g⟩ := m
 simp only at *
 have HS : Hid (Sl w v (ss l)) := hs
 have HSB : Hid (Sl w vb (bs b)) := hb
 obtain ⟨ao0, cap0, rfl, hc0⟩ := hs.form
 obtain ⟨ao1, cap1, rfl, hc1⟩ := hb.form
 simp only [ss_len, bs_len] at *
 clear hs hb hR
 have B0 : Hid (Below w.heap.size w w) := Below.refl _ _
 obtain ⟨W1, HW1, b1, y1, hS1, r_a1⟩ := Ke.l1 w #[.int .i64 id, .slice ao0 l.length cap0, .int .i64 h.n, .string h.r, .slice ao1 b.length cap1, .int .i64 s, .int .i64 g.n, .string g.r] 32
 have z1 := b1.size
 have B1 := Ke.b B0 b1
 have c_a1 := Ke.c r_a1
 obtain ⟨I, hI⟩ : ∃ I, decide (0 ≤ to ∧ to ≤ 20) = I := ⟨_, rfl⟩
 have q0 : ∀ W, _ := fun W => in6 W to 0 20
 simp only [hI] at q0
 have HD : Hid (R = (I && !decide (to = id))) := by show _ = _; rw [← HR.out]; unfold another; simp only; rw [hI]
 clear HR hI
 obtain ⟨J, hJ⟩ : ∃ J, decide (to = id) = J := ⟨_, rfl⟩
 have n1 : (to != id) = !J := by rw [← hJ]; by_cases h9 : to = id <;> simp [h9, bne_iff_ne]
 rw [hJ] at HD
 clear hJ
 go_enter Tryz.func120, Tryz.ntmps120
 go_wp2_with fail
 rw [HW1.out]
 refine (q0 W1).mono ?_
 rintro e W_ ⟨rfl, hW_⟩
 subst hW_
 clear q0
 cases I
 ·
  go_wp2
  go_ret
  exact ⟨by rw [HD.out]; rfl, B1.out⟩
 ·
  go_wp2
  go_ret
  exact ⟨by rw [HD.out]; simp, B1.out⟩
set_option maxRecDepth 1000000 in
set_option maxHeartbeats 16000000 in
theorem ask_spec (w : World) (v vb : Value) (m : Mr) (to : Int) (hs : Sl w v (ss m.st.l)) (hb : Sl w vb (bs m.st.b)) :
  Calls Tryz.prog 73 #[.agg #[.int .i64 m.id, v, .int .i64 m.st.h.n, .string m.st.h.r, vb, .int .i64 m.st.s, .int .i64 m.b.n, .string m.b.r], .int .i64 to] w fun e w' => ∃ v', e = .returned v' ∧ Om w' w.heap.size w'.heap.size v' (ask m to) ∧ Below w.heap.size w w' := by
 obtain ⟨R, hR⟩ : ∃ R, ask m to = R := ⟨_, rfl⟩
 have HR : Hid (ask m to = R) := hR
 rw [hR]
 obtain ⟨id, ⟨l, h, b, s⟩, g⟩ := m
 simp only at *
 have HS : Hid (Sl w v (ss l)) := hs
 have HSB : Hid (Sl w vb (bs b)) := hb
 obtain ⟨ao0, cap0, rfl, hc0⟩ := hs.form
 obtain ⟨ao1, cap1, rfl, hc1⟩ := hb.form
 simp only [ss_len, bs_len] at *
 clear hs hb hR
 have B0 : Hid (Below w.heap.size w w) := Below.refl _ _
 obtain ⟨W1, HW1, b1, y1, hS1, r_a1⟩ := Ke.l1 w #[.int .i64 id, .slice ao0 l.length cap0, .int .i64 h.n, .string h.r, .slice ao1 b.length cap1, .int .i64 s, .int .i64 g.n, .string g.r] 32
 have z1 := b1.size
 have B1 := Ke.b B0 b1
 have c_a1 := Ke.c r_a1
 have q1 : ∀ W v1 v2, Sl W v1 (ss l) → Sl W v2 (bs b) → _ := fun W v1 v2 h1 h2 => another_spec W v1 v2 ⟨id, ⟨l, h, b, s⟩, g⟩ to h1 h2
 obtain ⟨A, hA⟩ : ∃ A, another ⟨id, ⟨l, h, b, s⟩, g⟩ to = A := ⟨_, rfl⟩
 simp only [hA] at q1
 have HD : Hid (R = if A = true then (if (l.length : Int) < g.n then [⟨2, id, to, g, (l.length : Int), []⟩] else []) else []) := by show _ = _; rw [← HR.out]; unfold ask ask1; simp only; rw [hA]
 clear HR hA
 go_enter Tryz.func73, Tryz.ntmps73
 go_wp2_with fail
 rw [HW1.out]
 refine (q1 W1 _ _ (HS.out.later B1.out) (HSB.out.later B1.out)).mono ?_
 rintro e W2 ⟨rfl, b2⟩
 have z2 := b2.size
 have B2 := Ke.b B1 b2
 have r_a2 := Ke.r r_a1 b2
 have c_a2 := Ke.c r_a2
 clear r_a1 c_a1
 cases A
 ·
  have HN : Hid (R = []) := by show _ = _; rw [HD.out]; rfl
  go_wp2
  go_ret
  refine ⟨_, rfl, ?_, B2.out.alloc B2.out.size _⟩
  rw [HN.out]
  exact Om.nil _ _ _ _ _
 ·
  by_cases hle : g.n ≤ (l.length : Int)
  ·
   have HN : Hid (R = []) := by show _ = _; rw [HD.out, if_pos rfl, if_neg (by omega)]
   go_wp2
   go_ret
   refine ⟨_, rfl, ?_, B2.out.alloc B2.out.size _⟩
   rw [HN.out]
   exact Om.nil _ _ _ _ _
  ·
   have HN : Hid (R = [⟨2, id, to, g, (l.length : Int), []⟩]) := by show _ = _; rw [HD.out, if_pos rfl, if_pos (by omega)]
   go_wp2
   go_ret
   refine ⟨_, rfl, ?_, B2.out.alloc B2.out.size _⟩
   rw [HN.out]
   exact Om.one0 ⟨2, id, to, g, (l.length : Int), []⟩ rfl (by omega)
set_option maxRecDepth 1000000 in
set_option maxHeartbeats 16000000 in
theorem gossip1_spec (w : World) (v vb : Value) (m : Mr) (to : Int) (hs : Sl w v (ss m.st.l)) (hb : Sl w vb (bs m.st.b)) :
  Calls Tryz.prog 72 #[.agg #[.int .i64 m.id, v, .int .i64 m.st.h.n, .string m.st.h.r, vb, .int .i64 m.st.s, .int .i64 m.b.n, .string m.b.r], .int .i64 to] w fun e w' => ∃ v', e = .returned v' ∧ Om w' w.heap.size w'.heap.size v' (gossip1 m to) ∧ Below w.heap.size w w' := by
 obtain ⟨R, hR⟩ : ∃ R, gossip1 m to = R := ⟨_, rfl⟩
 have HR : Hid (gossip1 m to = R) := hR
 rw [hR]
 obtain ⟨id, ⟨l, h, b, s⟩, g⟩ := m
 simp only at *
 have HS : Hid (Sl w v (ss l)) := hs
 have HSB : Hid (Sl w vb (bs b)) := hb
 obtain ⟨ao0, cap0, rfl, hc0⟩ := hs.form
 obtain ⟨ao1, cap1, rfl, hc1⟩ := hb.form
 simp only [ss_len, bs_len] at *
 clear hs hb hR
 have B0 : Hid (Below w.heap.size w w) := Below.refl _ _
 obtain ⟨W1, HW1, b1, y1, hS1, r_a1⟩ := Ke.l1 w #[.int .i64 id, .slice ao0 l.length cap0, .int .i64 h.n, .string h.r, .slice ao1 b.length cap1, .int .i64 s, .int .i64 g.n, .string g.r] 32
 have z1 := b1.size
 have B1 := Ke.b B0 b1
 have c_a1 := Ke.c r_a1
 have q1 : ∀ W v1 v2, Sl W v1 (ss l) → Sl W v2 (bs b) → _ := fun W v1 v2 h1 h2 => another_spec W v1 v2 ⟨id, ⟨l, h, b, s⟩, g⟩ to h1 h2
 obtain ⟨A, hA⟩ : ∃ A, another ⟨id, ⟨l, h, b, s⟩, g⟩ to = A := ⟨_, rfl⟩
 simp only [hA] at q1
 have HD : Hid (R = if A = true then [⟨1, id, to, g, 0, []⟩] else []) := by show _ = _; rw [← HR.out]; unfold gossip1; simp only; rw [hA]
 clear HR hA
 go_enter Tryz.func72, Tryz.ntmps72
 go_wp2_with fail
 rw [HW1.out]
 refine (q1 W1 _ _ (HS.out.later B1.out) (HSB.out.later B1.out)).mono ?_
 rintro e W2 ⟨rfl, b2⟩
 have z2 := b2.size
 have B2 := Ke.b B1 b2
 have r_a2 := Ke.r r_a1 b2
 have c_a2 := Ke.c r_a2
 clear r_a1 c_a1
 cases A
 ·
  have HN : Hid (R = []) := by show _ = _; rw [HD.out]; rfl
  go_wp2
  go_ret
  refine ⟨_, rfl, ?_, B2.out.alloc B2.out.size _⟩
  rw [HN.out]
  exact Om.nil _ _ _ _ _
 ·
  have HN : Hid (R = [⟨1, id, to, g, 0, []⟩]) := by show _ = _; rw [HD.out]; rfl
  go_wp2
  go_ret
  refine ⟨_, rfl, ?_, B2.out.alloc B2.out.size _⟩
  rw [HN.out]
  exact Om.one0 ⟨1, id, to, g, 0, []⟩ rfl (by omega)
set_option maxRecDepth 1000000 in
set_option maxHeartbeats 16000000 in
theorem gossip_spec (w : World) (v vb vt : Value) (m : Mr) (t : List Hd) (to : Int) (hs : Sl w v (ss m.st.l)) (hb : Sl w vb (bs m.st.b)) (hby : Byt m.st.b) (hst : Sh w vt t) (hl : m.st.l.length ≤ 1000000000) (hbl : m.st.b.length ≤ 1000000000) (htl : t.length ≤ 1000000000) (hz : ∀ s ∈ m.st.l, s.size ≤ 10000000000) :
  Calls Tryz.prog 29 #[.agg #[.int .i64 m.id, v, .int .i64 m.st.h.n, .string m.st.h.r, vb, .int .i64 m.st.s, .int .i64 m.b.n, .string m.b.r], vt, .int .i64 to] w fun e w' => ∃ v', e = .returned v' ∧ Om w' w.heap.size w'.heap.size v' (gossip m t to) ∧ Below w.heap.size w w' := by
 obtain ⟨R, hR⟩ : ∃ R, gossip m t to = R := ⟨_, rfl⟩
 have HR : Hid (gossip m t to = R) := hR
 rw [hR]
 obtain ⟨id, ⟨l, h, b, s⟩, g⟩ := m
 simp only at *
 have HS : Hid (Sl w v (ss l)) := hs
 have HSB : Hid (Sl w vb (bs b)) := hb
 have HBY : Hid (Byt b) := hby
 have HT : Hid (Sh w vt t) := hst
 obtain ⟨ao0, cap0, rfl, hc0⟩ := hs.form
 obtain ⟨ao1, cap1, rfl, hc1⟩ := hb.form
 obtain ⟨ao2, cap2, rfl, hc2⟩ := hst.form
 simp only [ss_len, bs_len] at *
 clear hs hb hR hby hst
 have B0 : Hid (Below w.heap.size w w) := Below.refl _ _
 obtain ⟨W1, HW1, b1, y1, hS1, r_a1⟩ := Ke.l1 w #[.int .i64 id, .slice ao0 l.length cap0, .int .i64 h.n, .string h.r, .slice ao1 b.length cap1, .int .i64 s, .int .i64 g.n, .string g.r] 32
 have z1 := b1.size
 have B1 := Ke.b B0 b1
 have c_a1 := Ke.c r_a1
 have q1 : ∀ W v1 v2 v3, Sl W v1 (ss l) → Sl W v2 (bs b) → Sh W v3 t → _ := fun W v1 v2 v3 h1 h2 h3 => mirrorok_spec W v1 v2 v3 ⟨id, ⟨l, h, b, s⟩, g⟩ t h1 h2 HBY.out h3 hl hbl htl hz
 obtain ⟨A, hA⟩ : ∃ A, mirrorOk ⟨id, ⟨l, h, b, s⟩, g⟩ t = A := ⟨_, rfl⟩
 simp only [hA] at q1
 have q2 : ∀ W v1 v2, Sl W v1 (ss l) → Sl W v2 (bs b) → _ := fun W v1 v2 h1 h2 => gossip1_spec W v1 v2 ⟨id, ⟨l, h, b, s⟩, g⟩ to h1 h2
 obtain ⟨N, hN⟩ : ∃ N, gossip1 ⟨id, ⟨l, h, b, s⟩, g⟩ to = N := ⟨_, rfl⟩
 simp only [hN] at q2
 have HD : Hid (R = if A = true then N else []) := by show _ = _; rw [← HR.out]; unfold gossip; rw [hA, hN]
 clear HR hA hN hz
 go_enter Tryz.func29, Tryz.ntmps29
 go_wp2_with fail
 rw [HW1.out]
 refine (q1 W1 _ _ _ (HS.out.later B1.out) (HSB.out.later B1.out) (HT.out.later B1.out)).mono ?_
 rintro e W2 ⟨rfl, b2⟩
 have z2 := b2.size
 have B2 := Ke.b B1 b2
 have r_a2 := Ke.r r_a1 b2
 have c_a2 := Ke.c r_a2
 clear r_a1 c_a1
 cases A
 ·
  have HN : Hid (R = []) := by show _ = _; rw [HD.out]; rfl
  go_wp2
  go_ret
  refine ⟨_, rfl, ?_, B2.out.alloc B2.out.size _⟩
  rw [HN.out]
  exact Om.nil _ _ _ _ _
 ·
  have HN : Hid (R = N) := by show _ = _; rw [HD.out]; rfl
  go_wp2_with fail
  refine (q2 W2 _ _ (HS.out.later B2.out) (HSB.out.later B2.out)).mono ?_
  rintro e W3 ⟨v_q, rfl, om3, b3⟩
  obtain ⟨ao_q, L_q, cap_q, rfl, hL8, hL9⟩ := om3.form
  clear hL8 hL9
  have OM : Hid (Om W3 W2.heap.size W3.heap.size (.slice ao_q L_q cap_q) N) := om3
  clear om3
  have z3 := b3.size
  have B3 := Ke.b B2 b3
  have r_a3 := Ke.r r_a2 b3
  have c_a3 := Ke.c r_a3
  clear r_a2 c_a2
  go_wp2
  go_ret
  refine ⟨_, rfl, ?_, B3.out⟩
  rw [HN.out]
  exact OM.out.mono (by omega) (Nat.le_refl _) (Nat.le_refl _)
set_option maxRecDepth 1000000 in
set_option maxHeartbeats 16000000 in
theorem askfor_spec (w : World) (v vb vt : Value) (m : Mr) (t : List Hd) (to : Int) (hs : Sl w v (ss m.st.l)) (hb : Sl w vb (bs m.st.b)) (hby : Byt m.st.b) (hst : Sh w vt t) (hl : m.st.l.length ≤ 1000000000) (hbl : m.st.b.length ≤ 1000000000) (htl : t.length ≤ 1000000000) (hz : ∀ s ∈ m.st.l, s.size ≤ 10000000000) :
  Calls Tryz.prog 30 #[.agg #[.int .i64 m.id, v, .int .i64 m.st.h.n, .string m.st.h.r, vb, .int .i64 m.st.s, .int .i64 m.b.n, .string m.b.r], vt, .int .i64 to] w fun e w' => ∃ v', e = .returned v' ∧ Om w' w.heap.size w'.heap.size v' (askFor m t to) ∧ Below w.heap.size w w' := by
 obtain ⟨R, hR⟩ : ∃ R, askFor m t to = R := ⟨_, rfl⟩
 have HR : Hid (askFor m t to = R) := hR
 rw [hR]
 obtain ⟨id, ⟨l, h, b, s⟩, g⟩ := m
 simp only at *
 have HS : Hid (Sl w v (ss l)) := hs
 have HSB : Hid (Sl w vb (bs b)) := hb
 have HBY : Hid (Byt b) := hby
 have HT : Hid (Sh w vt t) := hst
 obtain ⟨ao0, cap0, rfl, hc0⟩ := hs.form
 obtain ⟨ao1, cap1, rfl, hc1⟩ := hb.form
 obtain ⟨ao2, cap2, rfl, hc2⟩ := hst.form
 simp only [ss_len, bs_len] at *
 clear hs hb hR hby hst
 have B0 : Hid (Below w.heap.size w w) := Below.refl _ _
 obtain ⟨W1, HW1, b1, y1, hS1, r_a1⟩ := Ke.l1 w #[.int .i64 id, .slice ao0 l.length cap0, .int .i64 h.n, .string h.r, .slice ao1 b.length cap1, .int .i64 s, .int .i64 g.n, .string g.r] 32
 have z1 := b1.size
 have B1 := Ke.b B0 b1
 have c_a1 := Ke.c r_a1
 have q1 : ∀ W v1 v2 v3, Sl W v1 (ss l) → Sl W v2 (bs b) → Sh W v3 t → _ := fun W v1 v2 v3 h1 h2 h3 => mirrorok_spec W v1 v2 v3 ⟨id, ⟨l, h, b, s⟩, g⟩ t h1 h2 HBY.out h3 hl hbl htl hz
 obtain ⟨A, hA⟩ : ∃ A, mirrorOk ⟨id, ⟨l, h, b, s⟩, g⟩ t = A := ⟨_, rfl⟩
 simp only [hA] at q1
 have q2 : ∀ W v1 v2, Sl W v1 (ss l) → Sl W v2 (bs b) → _ := fun W v1 v2 h1 h2 => ask_spec W v1 v2 ⟨id, ⟨l, h, b, s⟩, g⟩ to h1 h2
 obtain ⟨N, hN⟩ : ∃ N, ask ⟨id, ⟨l, h, b, s⟩, g⟩ to = N := ⟨_, rfl⟩
 simp only [hN] at q2
 have HD : Hid (R = if A = true then N else []) := by show _ = _; rw [← HR.out]; unfold askFor; rw [hA, hN]
 clear HR hA hN hz
 go_enter Tryz.func30, Tryz.ntmps30
 go_wp2_with fail
 rw [HW1.out]
 refine (q1 W1 _ _ _ (HS.out.later B1.out) (HSB.out.later B1.out) (HT.out.later B1.out)).mono ?_
 rintro e W2 ⟨rfl, b2⟩
 have z2 := b2.size
 have B2 := Ke.b B1 b2
 have r_a2 := Ke.r r_a1 b2
 have c_a2 := Ke.c r_a2
 clear r_a1 c_a1
 cases A
 ·
  have HN : Hid (R = []) := by show _ = _; rw [HD.out]; rfl
  go_wp2
  go_ret
  refine ⟨_, rfl, ?_, B2.out.alloc B2.out.size _⟩
  rw [HN.out]
  exact Om.nil _ _ _ _ _
 ·
  have HN : Hid (R = N) := by show _ = _; rw [HD.out]; rfl
  go_wp2_with fail
  refine (q2 W2 _ _ (HS.out.later B2.out) (HSB.out.later B2.out)).mono ?_
  rintro e W3 ⟨v_q, rfl, om3, b3⟩
  obtain ⟨ao_q, L_q, cap_q, rfl, hL8, hL9⟩ := om3.form
  clear hL8 hL9
  have OM : Hid (Om W3 W2.heap.size W3.heap.size (.slice ao_q L_q cap_q) N) := om3
  clear om3
  have z3 := b3.size
  have B3 := Ke.b B2 b3
  have r_a3 := Ke.r r_a2 b3
  have c_a3 := Ke.c r_a3
  clear r_a2 c_a2
  go_wp2
  go_ret
  refine ⟨_, rfl, ?_, B3.out⟩
  rw [HN.out]
  exact OM.out.mono (by omega) (Nat.le_refl _) (Nat.le_refl _)
end Go.Proofs.YtchonoonclllbaaGreatDoor.Mi
