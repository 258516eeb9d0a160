/- Texts in one: Mi3, Ed1, Sr6. -/
import Derived.Test.YtchonoonclllbabGreatDoorPa6
import Derived.Test.YtchonoonclllbabGreatDoorPa14
import Derived.Test.YtchonoonclllbabGreatDoorPa17
import Derived.Test.YtchonoonclllbabGreatDoorPa10
import Derived.Test.YtchonoonclllbabGreatDoorPa12
namespace Go.Proofs.YtchonoonclllbabGreatDoor.Mi
open Go.RowKit Go.Proofs.YtchonoonclllbabGreatDoor.Mem Go.Proofs.YtchonoonclllbabGreatDoor.Laws Go.Proofs.YtchonoonclllbabGreatDoor.Bytes Go.Proofs.YtchonoonclllbabGreatDoor.Sha Go.Proofs.YtchonoonclllbabGreatDoor.Tr Go.Proofs.YtchonoonclllbabGreatDoor.He Go.Proofs.YtchonoonclllbabGreatDoor.Lg Go.Proofs.YtchonoonclllbabGreatDoor.Sr Go.Proofs.YtchonoonclllbabGreatDoor.Mg
set_option linter.unusedVariables false
set_option linter.unusedSimpArgs false
set_option maxRecDepth 1000000 in
set_option maxHeartbeats 16000000 in
theorem another_spec (w : World) (v vb : Value) (m : Mr) (to : Int) (hs : Sl w v (ss m.st.l)) (hb : Sl w vb (bs m.st.b)) :
  Calls Tryz.prog 93 #[.agg #[.int .i64 m.id, v, .int .i64 m.st.h.n, .string m.st.h.r, vb, .int .i64 m.st.s, .int .i64 m.b.n, .string m.b.r], .int .i64 to] w fun e w' => e = .returned (.bool (another m to)) ∧ Below w.heap.size w w' := by
 obtain ⟨R, hR⟩ : ∃ R, another m to = R := ⟨_, rfl⟩
 have HR : Hid (another m to = R) := hR
 rw [hR]
 obtain ⟨id, ⟨l, h, b, s⟩, g⟩ := m
 simp only at *
 have HS : Hid (Sl w v (ss l)) := hs
 have HSB : Hid (Sl w vb (bs b)) := hb
 obtain ⟨ao0, cap0, rfl, hc0⟩ := hs.form
 obtain ⟨ao1, cap1, rfl, hc1⟩ := hb.form
 simp only [ss_len, bs_len] at *
 clear hs hb hR
 have B0 : Hid (Below w.heap.size w w) := Below.refl _ _
 obtain ⟨W1, HW1, b1, y1, hS1, r_a1⟩ := Ke.l1 w #[.int .i64 id, .slice ao0 l.length cap0, .int .i64 h.n, .string h.r, .slice ao1 b.length cap1, .int .i64 s, .int .i64 g.n, .string g.r] 44
 have z1 := b1.size
 have B1 := Ke.b B0 b1
 have c_a1 := Ke.c r_a1
 obtain ⟨I, hI⟩ : ∃ I, decide (0 ≤ to ∧ to ≤ 20) = I := ⟨_, rfl⟩
 have q0 : ∀ W, _ := fun W => in6 W to 0 20
 simp only [hI] at q0
 have HD : Hid (R = (I && !decide (to = id))) := by show _ = _; rw [← HR.out]; unfold another; simp only; rw [hI]
 clear HR hI
 obtain ⟨J, hJ⟩ : ∃ J, decide (to = id) = J := ⟨_, rfl⟩
 have n1 : (to != id) = !J := by rw [← hJ]; by_cases h9 : to = id <;> simp [h9, bne_iff_ne]
 rw [hJ] at HD
 clear hJ
 go_enter Tryz.func93, Tryz.ntmps93
 go_wp2_with fail
 rw [HW1.out]
 refine (q0 W1).mono ?_
 rintro e W_ ⟨rfl, hW_⟩
 subst hW_
 clear q0
 cases I
 ·
  go_wp2
  go_ret
  exact ⟨by rw [HD.out]; rfl, B1.out⟩
 ·
  go_wp2
  go_ret
  exact ⟨by rw [HD.out]; simp, B1.out⟩
set_option maxRecDepth 1000000 in
set_option maxHeartbeats 16000000 in
theorem ask_spec (w : World) (v vb : Value) (m : Mr) (to : Int) (hs : Sl w v (ss m.st.l)) (hb : Sl w vb (bs m.st.b)) :
  Calls Tryz.prog 59 #[.agg #[.int .i64 m.id, v, .int .i64 m.st.h.n, .string m.st.h.r, vb, .int .i64 m.st.s, .int .i64 m.b.n, .string m.b.r], .int .i64 to] w fun e w' => ∃ v', e = .returned v' ∧ Om w' w.heap.size w'.heap.size v' (ask m to) ∧ Below w.heap.size w w' := by
 obtain ⟨R, hR⟩ : ∃ R, ask m to = R := ⟨_, rfl⟩
 have HR : Hid (ask m to = R) := hR
 rw [hR]
 obtain ⟨id, ⟨l, h, b, s⟩, g⟩ := m
 simp only at *
 have HS : Hid (Sl w v (ss l)) := hs
 have HSB : Hid (Sl w vb (bs b)) := hb
 obtain ⟨ao0, cap0, rfl, hc0⟩ := hs.form
 obtain ⟨ao1, cap1, rfl, hc1⟩ := hb.form
 simp only [ss_len, bs_len] at *
 clear hs hb hR
 have B0 : Hid (Below w.heap.size w w) := Below.refl _ _
 obtain ⟨W1, HW1, b1, y1, hS1, r_a1⟩ := Ke.l1 w #[.int .i64 id, .slice ao0 l.length cap0, .int .i64 h.n, .string h.r, .slice ao1 b.length cap1, .int .i64 s, .int .i64 g.n, .string g.r] 44
 have z1 := b1.size
 have B1 := Ke.b B0 b1
 have c_a1 := Ke.c r_a1
 have q1 : ∀ W v1 v2, Sl W v1 (ss l) → Sl W v2 (bs b) → _ := fun W v1 v2 h1 h2 => another_spec W v1 v2 ⟨id, ⟨l, h, b, s⟩, g⟩ to h1 h2
 obtain ⟨A, hA⟩ : ∃ A, another ⟨id, ⟨l, h, b, s⟩, g⟩ to = A := ⟨_, rfl⟩
 simp only [hA] at q1
 have HD : Hid (R = if A = true then (if (l.length : Int) < g.n then [⟨2, id, to, g, (l.length : Int), []⟩] else []) else []) := by show _ = _; rw [← HR.out]; unfold ask ask1; simp only; rw [hA]
 clear HR hA
 go_enter Tryz.func59, Tryz.ntmps59
 go_wp2_with fail
 rw [HW1.out]
 refine (q1 W1 _ _ (HS.out.later B1.out) (HSB.out.later B1.out)).mono ?_
 rintro e W2 ⟨rfl, b2⟩
 have z2 := b2.size
 have B2 := Ke.b B1 b2
 have r_a2 := Ke.r r_a1 b2
 have c_a2 := Ke.c r_a2
 clear r_a1 c_a1
 cases A
 ·
  have HN : Hid (R = []) := by show _ = _; rw [HD.out]; rfl
  go_wp2
  go_ret
  refine ⟨_, rfl, ?_, B2.out.alloc B2.out.size _⟩
  rw [HN.out]
  exact Om.nil _ _ _ _ _
 ·
  by_cases hle : g.n ≤ (l.length : Int)
  ·
   have HN : Hid (R = []) := by show _ = _; rw [HD.out, if_pos rfl, if_neg (by omega)]
   go_wp2
   go_ret
   refine ⟨_, rfl, ?_, B2.out.alloc B2.out.size _⟩
   rw [HN.out]
   exact Om.nil _ _ _ _ _
  ·
   have HN : Hid (R = [⟨2, id, to, g, (l.length : Int), []⟩]) := by show _ = _; rw [HD.out, if_pos rfl, if_pos (by omega)]
   go_wp2
   go_ret
   refine ⟨_, rfl, ?_, B2.out.alloc B2.out.size _⟩
   rw [HN.out]
   exact Om.one0 ⟨2, id, to, g, (l.length : Int), []⟩ rfl (by omega)
set_option maxRecDepth 1000000 in
set_option maxHeartbeats 16000000 in
theorem gossip1_spec (w : World) (v vb : Value) (m : Mr) (to : Int) (hs : Sl w v (ss m.st.l)) (hb : Sl w vb (bs m.st.b)) :
  Calls Tryz.prog 56 #[.agg #[.int .i64 m.id, v, .int .i64 m.st.h.n, .string m.st.h.r, vb, .int .i64 m.st.s, .int .i64 m.b.n, .string m.b.r], .int .i64 to] w fun e w' => ∃ v', e = .returned v' ∧ Om w' w.heap.size w'.heap.size v' (gossip1 m to) ∧ Below w.heap.size w w' := by
 obtain ⟨R, hR⟩ : ∃ R, gossip1 m to = R := ⟨_, rfl⟩
 have HR : Hid (gossip1 m to = R) := hR
 rw [hR]
 obtain ⟨id, ⟨l, h, b, s⟩, g⟩ := m
 simp only at *
 have HS : Hid (Sl w v (ss l)) := hs
 have HSB : Hid (Sl w vb (bs b)) := hb
 obtain ⟨ao0, cap0, rfl, hc0⟩ := hs.form
 obtain ⟨ao1, cap1, rfl, hc1⟩ := hb.form
 simp only [ss_len, bs_len] at *
 clear hs hb hR
 have B0 : Hid (Below w.heap.size w w) := Below.refl _ _
 obtain ⟨W1, HW1, b1, y1, hS1, r_a1⟩ := Ke.l1 w #[.int .i64 id, .slice ao0 l.length cap0, .int .i64 h.n, .string h.r, .slice ao1 b.length cap1, .int .i64 s, .int .i64 g.n, .string g.r] 44
 have z1 := b1.size
 have B1 := Ke.b B0 b1
 have c_a1 := Ke.c r_a1
 have q1 : ∀ W v1 v2, Sl W v1 (ss l) → Sl W v2 (bs b) → _ := fun W v1 v2 h1 h2 => another_spec W v1 v2 ⟨id, ⟨l, h, b, s⟩, g⟩ to h1 h2
 obtain ⟨A, hA⟩ : ∃ A, another ⟨id, ⟨l, h, b, s⟩, g⟩ to = A := ⟨_, rfl⟩
 simp only [hA] at q1
 have HD : Hid (R = if A = true then [⟨1, id, to, g, 0, []⟩] else []) := by show _ = _; rw [← HR.out]; unfold gossip1; simp only; rw [hA]
 clear HR hA
 go_enter Tryz.func56, Tryz.ntmps56
 go_wp2_with fail
 rw [HW1.out]
 refine (q1 W1 _ _ (HS.out.later B1.out) (HSB.out.later B1.out)).mono ?_
 rintro e W2 ⟨rfl, b2⟩
 have z2 := b2.size
 have B2 := Ke.b B1 b2
 have r_a2 := Ke.r r_a1 b2
 have c_a2 := Ke.c r_a2
 clear r_a1 c_a1
 cases A
 ·
  have HN : Hid (R = []) := by show _ = _; rw [HD.out]; rfl
  go_wp2
  go_ret
  refine ⟨_, rfl, ?_, B2.out.alloc B2.out.size _⟩
  rw [HN.out]
  exact Om.nil _ _ _ _ _
 ·
  have HN : Hid (R = [⟨1, id, to, g, 0, []⟩]) := by show _ = _; rw [HD.out]; rfl
  go_wp2
  go_ret
  refine ⟨_, rfl, ?_, B2.out.alloc B2.out.size _⟩
  rw [HN.out]
  exact Om.one0 ⟨1, id, to, g, 0, []⟩ rfl (by omega)
set_option maxRecDepth 1000000 in
set_option maxHeartbeats 16000000 in
theorem gossip_spec (w : World) (v vb vt : Value) (m : Mr) (t : List Hd) (to : Int) (hs : Sl w v (ss m.st.l)) (hb : Sl w vb (bs m.st.b)) (hby : Byt m.st.b) (hst : Sh w vt t) (hl : m.st.l.length ≤ 1000000000) (hbl : m.st.b.length ≤ 1000000000) (htl : t.length ≤ 1000000000) (hz : ∀ s ∈ m.st.l, s.size ≤ 10000000000) :
  Calls Tryz.prog 26 #[.agg #[.int .i64 m.id, v, .int .i64 m.st.h.n, .string m.st.h.r, vb, .int .i64 m.st.s, .int .i64 m.b.n, .string m.b.r], vt, .int .i64 to] w fun e w' => ∃ v', e = .returned v' ∧ Om w' w.heap.size w'.heap.size v' (gossip m t to) ∧ Below w.heap.size w w' := by
 obtain ⟨R, hR⟩ : ∃ R, gossip m t to = R := ⟨_, rfl⟩
 have HR : Hid (gossip m t to = R) := hR
 rw [hR]
 obtain ⟨id, ⟨l, h, b, s⟩, g⟩ := m
 simp only at *
 have HS : Hid (Sl w v (ss l)) := hs
 have HSB : Hid (Sl w vb (bs b)) := hb
 have HBY : Hid (Byt b) := hby
 have HT : Hid (Sh w vt t) := hst
 obtain ⟨ao0, cap0, rfl, hc0⟩ := hs.form
 obtain ⟨ao1, cap1, rfl, hc1⟩ := hb.form
 obtain ⟨ao2, cap2, rfl, hc2⟩ := hst.form
 simp only [ss_len, bs_len] at *
 clear hs hb hR hby hst
 have B0 : Hid (Below w.heap.size w w) := Below.refl _ _
 obtain ⟨W1, HW1, b1, y1, hS1, r_a1⟩ := Ke.l1 w #[.int .i64 id, .slice ao0 l.length cap0, .int .i64 h.n, .string h.r, .slice ao1 b.length cap1, .int .i64 s, .int .i64 g.n, .string g.r] 44
 have z1 := b1.size
 have B1 := Ke.b B0 b1
 have c_a1 := Ke.c r_a1
 have q1 : ∀ W v1 v2 v3, Sl W v1 (ss l) → Sl W v2 (bs b) → Sh W v3 t → _ := fun W v1 v2 v3 h1 h2 h3 => mirrorok_spec W v1 v2 v3 ⟨id, ⟨l, h, b, s⟩, g⟩ t h1 h2 HBY.out h3 hl hbl htl hz
 obtain ⟨A, hA⟩ : ∃ A, mirrorOk ⟨id, ⟨l, h, b, s⟩, g⟩ t = A := ⟨_, rfl⟩
 simp only [hA] at q1
 have q2 : ∀ W v1 v2, Sl W v1 (ss l) → Sl W v2 (bs b) → _ := fun W v1 v2 h1 h2 => gossip1_spec W v1 v2 ⟨id, ⟨l, h, b, s⟩, g⟩ to h1 h2
 obtain ⟨N, hN⟩ : ∃ N, gossip1 ⟨id, ⟨l, h, b, s⟩, g⟩ to = N := ⟨_, rfl⟩
 simp only [hN] at q2
 have HD : Hid (R = if A = true then N else []) := by show _ = _; rw [← HR.out]; unfold gossip; rw [hA, hN]
 clear HR hA hN hz
 go_enter Tryz.func26, Tryz.ntmps26
 go_wp2_with fail
 rw [HW1.out]
 refine (q1 W1 _ _ _ (HS.out.later B1.out) (HSB.out.later B1.out) (HT.out.later B1.out)).mono ?_
 rintro e W2 ⟨rfl, b2⟩
 have z2 := b2.size
 have B2 := Ke.b B1 b2
 have r_a2 := Ke.r r_a1 b2
 have c_a2 := Ke.c r_a2
 clear r_a1 c_a1
 cases A
 ·
  have HN : Hid (R = []) := by show _ = _; rw [HD.out]; rfl
  go_wp2
  go_ret
  refine ⟨_, rfl, ?_, B2.out.alloc B2.out.size _⟩
  rw [HN.out]
  exact Om.nil _ _ _ _ _
 ·
  have HN : Hid (R = N) := by show _ = _; rw [HD.out]; rfl
  go_wp2_with fail
  refine (q2 W2 _ _ (HS.out.later B2.out) (HSB.out.later B2.out)).mono ?_
  rintro e W3 ⟨v_q, rfl, om3, b3⟩
  obtain ⟨ao_q, L_q, cap_q, rfl, hL8, hL9⟩ := om3.form
  clear hL8 hL9
  have OM : Hid (Om W3 W2.heap.size W3.heap.size (.slice ao_q L_q cap_q) N) := om3
  clear om3
  have z3 := b3.size
  have B3 := Ke.b B2 b3
  have r_a3 := Ke.r r_a2 b3
  have c_a3 := Ke.c r_a3
  clear r_a2 c_a2
  go_wp2
  go_ret
  refine ⟨_, rfl, ?_, B3.out⟩
  rw [HN.out]
  exact OM.out.mono (by omega) (Nat.le_refl _) (Nat.le_refl _)
set_option maxRecDepth 1000000 in
set_option maxHeartbeats 16000000 in
theorem askfor_spec (w : World) (v vb vt : Value) (m : Mr) (t : List Hd) (to : Int) (hs : Sl w v (ss m.st.l)) (hb : Sl w vb (bs m.st.b)) (hby : Byt m.st.b) (hst : Sh w vt t) (hl : m.st.l.length ≤ 1000000000) (hbl : m.st.b.length ≤ 1000000000) (htl : t.length ≤ 1000000000) (hz : ∀ s ∈ m.st.l, s.size ≤ 10000000000) :
  Calls Tryz.prog 28 #[.agg #[.int .i64 m.id, v, .int .i64 m.st.h.n, .string m.st.h.r, vb, .int .i64 m.st.s, .int .i64 m.b.n, .string m.b.r], vt, .int .i64 to] w fun e w' => ∃ v', e = .returned v' ∧ Om w' w.heap.size w'.heap.size v' (askFor m t to) ∧ Below w.heap.size w w' := by
 obtain ⟨R, hR⟩ : ∃ R, askFor m t to = R := ⟨_, rfl⟩
 have HR : Hid (askFor m t to = R) := hR
 rw [hR]
 obtain ⟨id, ⟨l, h, b, s⟩, g⟩ := m
 simp only at *
 have HS : Hid (Sl w v (ss l)) := hs
 have HSB : Hid (Sl w vb (bs b)) := hb
 have HBY : Hid (Byt b) := hby
 have HT : Hid (Sh w vt t) := hst
 obtain ⟨ao0, cap0, rfl, hc0⟩ := hs.form
 obtain ⟨ao1, cap1, rfl, hc1⟩ := hb.form
 obtain ⟨ao2, cap2, rfl, hc2⟩ := hst.form
 simp only [ss_len, bs_len] at *
 clear hs hb hR hby hst
 have B0 : Hid (Below w.heap.size w w) := Below.refl _ _
 obtain ⟨W1, HW1, b1, y1, hS1, r_a1⟩ := Ke.l1 w #[.int .i64 id, .slice ao0 l.length cap0, .int .i64 h.n, .string h.r, .slice ao1 b.length cap1, .int .i64 s, .int .i64 g.n, .string g.r] 44
 have z1 := b1.size
 have B1 := Ke.b B0 b1
 have c_a1 := Ke.c r_a1
 have q1 : ∀ W v1 v2 v3, Sl W v1 (ss l) → Sl W v2 (bs b) → Sh W v3 t → _ := fun W v1 v2 v3 h1 h2 h3 => mirrorok_spec W v1 v2 v3 ⟨id, ⟨l, h, b, s⟩, g⟩ t h1 h2 HBY.out h3 hl hbl htl hz
 obtain ⟨A, hA⟩ : ∃ A, mirrorOk ⟨id, ⟨l, h, b, s⟩, g⟩ t = A := ⟨_, rfl⟩
 simp only [hA] at q1
 have q2 : ∀ W v1 v2, Sl W v1 (ss l) → Sl W v2 (bs b) → _ := fun W v1 v2 h1 h2 => ask_spec W v1 v2 ⟨id, ⟨l, h, b, s⟩, g⟩ to h1 h2
 obtain ⟨N, hN⟩ : ∃ N, ask ⟨id, ⟨l, h, b, s⟩, g⟩ to = N := ⟨_, rfl⟩
 simp only [hN] at q2
 have HD : Hid (R = if A = true then N else []) := by show _ = _; rw [← HR.out]; unfold askFor; rw [hA, hN]
 clear HR hA hN hz
 go_enter Tryz.func28, Tryz.ntmps28
 go_wp2_with fail
 rw [HW1.out]
 refine (q1 W1 _ _ _ (HS.out.later B1.out) (HSB.out.later B1.out) (HT.out.later B1.out)).mono ?_
 rintro e W2 ⟨rfl, b2⟩
 have z2 := b2.size
 have B2 := Ke.b B1 b2
 have r_a2 := Ke.r r_a1 b2
 have c_a2 := Ke.c r_a2
 clear r_a1 c_a1
 cases A
 ·
  have HN : Hid (R = []) := by show _ = _; rw [HD.out]; rfl
  go_wp2
  go_ret
  refine ⟨_, rfl, ?_, B2.out.alloc B2.out.size _⟩
  rw [HN.out]
  exact Om.nil _ _ _ _ _
 ·
  have HN : Hid (R = N) := by show _ = _; rw [HD.out]; rfl
  go_wp2_with fail
  refine (q2 W2 _ _ (HS.out.later B2.out) (HSB.out.later B2.out)).mono ?_
  rintro e W3 ⟨v_q, rfl, om3, b3⟩
  obtain ⟨ao_q, L_q, cap_q, rfl, hL8, hL9⟩ := om3.form
  clear hL8 hL9
  have OM : Hid (Om W3 W2.heap.size W3.heap.size (.slice ao_q L_q cap_q) N) := om3
  clear om3
  have z3 := b3.size
  have B3 := Ke.b B2 b3
  have r_a3 := Ke.r r_a2 b3
  have c_a3 := Ke.c r_a3
  clear r_a2 c_a2
  go_wp2
  go_ret
  refine ⟨_, rfl, ?_, B3.out⟩
  rw [HN.out]
  exact OM.out.mono (by omega) (Nat.le_refl _) (Nat.le_refl _)
end Go.Proofs.YtchonoonclllbabGreatDoor.Mi
namespace Go.Proofs.YtchonoonclllbabGreatDoor.Ed
open Go.RowKit Go.Proofs.YtchonoonclllbabGreatDoor.Mem Go.Proofs.YtchonoonclllbabGreatDoor.Laws Go.Proofs.YtchonoonclllbabGreatDoor.Sha Go.Proofs.YtchonoonclllbabGreatDoor.Tr
set_option linter.unusedVariables false
set_option linter.unusedSimpArgs false
def top (n : Nat) : Nat := half (n + 1)
theorem top_ok {n : Nat} (h : 1 ≤ n) : Pow (top n) ∧ top n ≤ n ∧ n < 2 * top n := by
 obtain ⟨a, b, c⟩ := half_ok (n := n + 1) (by omega)
 exact ⟨a, by unfold top; omega, by unfold top; omega⟩
theorem top_pos {n : Nat} (h : 1 ≤ n) : 1 ≤ top n := by have := (top_ok h).2.2; omega
def edgeF : Nat → List ByteArray → List ByteArray
 | 0, _ => []
 | f + 1, l => if 1 ≤ l.length then root (l.take (top l.length)) :: edgeF f (l.drop (top l.length)) else []
theorem dropT_lt {l : List ByteArray} (h : 1 ≤ l.length) : (l.drop (top l.length)).length < l.length := by
 rw [List.length_drop]; have := top_pos h; omega
theorem edgeF_any : ∀ (f g : Nat) (l : List ByteArray), l.length < f → l.length < g → edgeF f l = edgeF g l := by
 intro f
 induction f with
 | zero => intro g l hf; omega
 | succ f ih =>
  intro g l hf hg
  cases g with
  | zero => omega
  | succ g =>
   by_cases h : 1 ≤ l.length
   ·
    have h1 := dropT_lt h
    rw [edgeF, edgeF, if_pos h, if_pos h, ih g (l.drop (top l.length)) (by omega) (by omega)]
   ·
    rw [edgeF, edgeF, if_neg h, if_neg h]
def edge (l : List ByteArray) : List ByteArray := edgeF (l.length + 1) l
theorem edge_nil : edge [] = [] := by unfold edge; rw [edgeF]; simp
theorem edge_some {l : List ByteArray} (h : 1 ≤ l.length) : edge l = root (l.take (top l.length)) :: edge (l.drop (top l.length)) := by
 have h1 := dropT_lt h
 unfold edge
 rw [edgeF, if_pos h, edgeF_any l.length ((l.drop (top l.length)).length + 1) (l.drop (top l.length)) (by omega) (by omega)]
def eroot : List ByteArray → ByteArray
 | [] => Plain.txt (digest [])
 | [h] => h
 | h :: g :: r => nodeH h (eroot (g :: r))
theorem eroot_cons {h : ByteArray} {r : List ByteArray} (hr : r ≠ []) : eroot (h :: r) = nodeH h (eroot r) := by
 cases r with
 | nil => exact absurd rfl hr
 | cons g r => rfl
theorem edge_ne {l : List ByteArray} (h : 1 ≤ l.length) : edge l ≠ [] := by rw [edge_some h]; simp
theorem eroot_edge (l : List ByteArray) : eroot (edge l) = root l := by
 refine lenRec (P := fun l => eroot (edge l) = root l) ?_ l
 intro l ih
 by_cases h : 1 ≤ l.length
 ·
  obtain ⟨hp, h1, h2⟩ := top_ok h
  have hpos := top_pos h
  rw [edge_some h]
  by_cases he : top l.length = l.length
  ·
   rw [he, List.take_length, List.drop_length, edge_nil]
   rfl
  ·
   have hd : 1 ≤ (l.drop (top l.length)).length := by rw [List.length_drop]; omega
   have h3 : 2 ≤ l.length := by omega
   rw [eroot_cons (edge_ne hd), ih (l.drop (top l.length)) (dropT_lt h), root_more h3]
   obtain ⟨a, b, c⟩ := half_ok h3
   rw [pow_one a hp b c (by omega) (by omega)]
 ·
  obtain rfl : l = [] := List.eq_nil_of_length_eq_zero (by omega)
  rw [edge_nil, root_nil]
  rfl
def carryF : Nat → Nat → List ByteArray → ByteArray → List ByteArray
 | 0, _, _, _ => []
 | f + 1, n, hs, h => if n % 2 = 1 then carryF f (n / 2) hs.dropLast (nodeH (hs.getLastD ⟨#[]⟩) h) else hs ++ [h]
theorem carryF_any : ∀ (f g n : Nat) (hs : List ByteArray) (h : ByteArray), n < f → n < g → carryF f n hs h = carryF g n hs h := by
 intro f
 induction f with
 | zero => intro g n hs h hf; omega
 | succ f ih =>
  intro g n hs h hf hg
  cases g with
  | zero => omega
  | succ g =>
   by_cases h0 : n % 2 = 1
   ·
    rw [carryF, carryF, if_pos h0, if_pos h0, ih g (n / 2) _ _ (by omega) (by omega)]
   ·
    rw [carryF, carryF, if_neg h0, if_neg h0]
def carry (n : Nat) (hs : List ByteArray) (h : ByteArray) : List ByteArray := carryF (n + 1) n hs h
theorem carry_if (n : Nat) (hs : List ByteArray) (h : ByteArray) : carry n hs h = if n % 2 = 1 then carry (n / 2) hs.dropLast (nodeH (hs.getLastD ⟨#[]⟩) h) else hs ++ [h] := by
 unfold carry
 by_cases h0 : n % 2 = 1
 ·
  rw [carryF, if_pos h0, if_pos h0, carryF_any n (n / 2 + 1) (n / 2) _ _ (by omega) (by omega)]
 ·
  rw [carryF, if_neg h0, if_neg h0]
theorem carry_even {n : Nat} (h0 : ¬ n % 2 = 1) (hs : List ByteArray) (h : ByteArray) : carry n hs h = hs ++ [h] := by rw [carry_if, if_neg h0]
theorem carry_odd {n : Nat} (h0 : n % 2 = 1) (hs : List ByteArray) (g h : ByteArray) : carry n (hs ++ [g]) h = carry (n / 2) hs (nodeH g h) := by
 rw [carry_if, if_pos h0]; simp
theorem pow_half (j : Nat) : half (2 ^ (j + 1)) = 2 ^ j := by
 have h1 : 1 ≤ 2 ^ j := Nat.one_le_two_pow
 have e : 2 ^ (j + 1) = 2 * 2 ^ j := by rw [Nat.pow_succ]; omega
 obtain ⟨a, b, c⟩ := half_ok (n := 2 ^ (j + 1)) (by omega)
 exact pow_one a ⟨j, rfl⟩ b c (by omega) (by omega)
theorem root_two {u t : List ByteArray} {j : Nat} (hu : u.length = 2 ^ j) (ht : t.length = 2 ^ j) : root (u ++ t) = nodeH (root u) (root t) := by
 have h1 : 1 ≤ 2 ^ j := Nat.one_le_two_pow
 have e : 2 ^ (j + 1) = 2 * 2 ^ j := by rw [Nat.pow_succ]; omega
 have hl : (u ++ t).length = 2 ^ (j + 1) := by rw [List.length_append]; omega
 rw [root_more (by omega), hl, pow_half, ← hu, List.take_left, List.drop_left]
theorem top_pow (j : Nat) : top (2 ^ j) = 2 ^ j := by
 have h1 : 1 ≤ 2 ^ j := Nat.one_le_two_pow
 obtain ⟨a, b, c⟩ := top_ok h1
 exact pow_one (n := 2 ^ j + 1) a ⟨j, rfl⟩ (by omega) (by omega) (by omega) (by omega)
theorem edge_pow {t : List ByteArray} {j : Nat} (ht : t.length = 2 ^ j) : edge t = [root t] := by
 have h1 : 1 ≤ 2 ^ j := Nat.one_le_two_pow
 rw [edge_some (by omega), ht, top_pow, ← ht, List.take_length, List.drop_length, edge_nil]
theorem edge_snoc {j : Nat} {t : List ByteArray} (ht : t.length = 2 ^ j) (l : List ByteArray) : ∀ (hl : 2 ^ (j + 1) ∣ l.length), edge (l ++ t) = edge l ++ [root t] := by
 refine lenRec (P := fun l => ∀ (hl : 2 ^ (j + 1) ∣ l.length), edge (l ++ t) = edge l ++ [root t]) ?_ l
 intro l ihl hl
 have h1 : 1 ≤ 2 ^ j := Nat.one_le_two_pow
 have e : 2 ^ (j + 1) = 2 * 2 ^ j := by rw [Nat.pow_succ]; omega
 by_cases h : 1 ≤ l.length
 ·
  obtain ⟨⟨d, hp⟩, a, b⟩ := top_ok h
  have hpos := top_pos h
  have hle : 2 ^ (j + 1) ≤ l.length := Nat.le_of_dvd (by omega) hl
  have hjd : j + 1 ≤ d := by
   have h4 : 2 ^ (j + 1) < 2 ^ (d + 1) := by rw [Nat.pow_succ 2 d]; omega
   have := (Nat.pow_lt_pow_iff_right (by omega : 1 < 2)).1 h4
   omega
  have hdvd : 2 ^ (j + 1) ∣ top l.length := by rw [hp]; exact Nat.pow_dvd_pow 2 hjd
  have hdrop : 2 ^ (j + 1) ∣ (l.drop (top l.length)).length := by rw [List.length_drop]; exact Nat.dvd_sub hl hdvd
  have hlt : l.length + 2 ^ j < 2 * top l.length := by
   have h5 : 2 ^ (j + 1) ∣ 2 * top l.length - l.length := Nat.dvd_sub (Nat.dvd_trans hdvd (Nat.dvd_mul_left _ _)) hl
   have h6 := Nat.le_of_dvd (by omega) h5
   omega
  have hlen : (l ++ t).length = l.length + 2 ^ j := by rw [List.length_append, ht]
  have htop : top (l ++ t).length = top l.length := by
   obtain ⟨a', b', c'⟩ := top_ok (n := (l ++ t).length) (by omega)
   exact pow_one (n := (l ++ t).length + 1) a' ⟨d, hp⟩ (by omega) (by omega) (by omega) (by omega)
  have ih := ihl (l.drop (top l.length)) (dropT_lt h) hdrop
  rw [edge_some (l := l ++ t) (by omega), htop, List.take_append_of_le_length a, List.drop_append_of_le_length a, ih, edge_some h]
  rfl
 ·
  obtain rfl : l = [] := List.eq_nil_of_length_eq_zero (by omega)
  rw [List.nil_append, edge_pow ht, edge_nil]
  rfl
theorem carry_edge (n : Nat) : ∀ (j : Nat) (l t : List ByteArray), l.length = n * 2 ^ j → t.length = 2 ^ j → carry n (edge l) (root t) = edge (l ++ t) := by
 refine natRec (P := fun n => ∀ (j : Nat) (l t : List ByteArray), l.length = n * 2 ^ j → t.length = 2 ^ j → carry n (edge l) (root t) = edge (l ++ t)) ?_ n
 intro n ihn j l t hl ht
 have h1 : 1 ≤ 2 ^ j := Nat.one_le_two_pow
 have e : 2 ^ (j + 1) = 2 * 2 ^ j := by rw [Nat.pow_succ]; omega
 by_cases hn : n % 2 = 1
 ·
  have hm : n * 2 ^ j = (n / 2) * 2 ^ (j + 1) + 2 ^ j := by
   have : n = 2 * (n / 2) + 1 := by omega
   generalize n / 2 = m at this
   rw [this, e, Nat.add_mul, Nat.one_mul, Nat.mul_comm 2 m, Nat.mul_assoc]
  have h2 : (l.take ((n / 2) * 2 ^ (j + 1))).length = (n / 2) * 2 ^ (j + 1) := by rw [List.length_take]; omega
  have h3 : (l.drop ((n / 2) * 2 ^ (j + 1))).length = 2 ^ j := by rw [List.length_drop]; omega
  have h4 : edge l = edge (l.take ((n / 2) * 2 ^ (j + 1))) ++ [root (l.drop ((n / 2) * 2 ^ (j + 1)))] := by
   have := edge_snoc h3 (l.take ((n / 2) * 2 ^ (j + 1))) (by rw [h2]; exact Nat.dvd_mul_left _ _)
   rwa [List.take_append_drop] at this
  rw [h4, carry_odd hn, ← root_two h3 ht, ihn (n / 2) (by omega) (j + 1) _ (l.drop ((n / 2) * 2 ^ (j + 1)) ++ t) h2 (by rw [List.length_append]; omega), ← List.append_assoc, List.take_append_drop]
 ·
  have hm : l.length = (n / 2) * 2 ^ (j + 1) := by
   have : n = 2 * (n / 2) := by omega
   generalize n / 2 = m at this
   rw [hl, this, e, Nat.mul_comm 2 m, Nat.mul_assoc]
  rw [carry_even hn, edge_snoc ht l (by rw [hm]; exact Nat.dvd_mul_left _ _)]
theorem carry_one (l : List ByteArray) (s : ByteArray) : carry l.length (edge l) (leafH s) = edge (l ++ [s]) := by
 rw [← root_one]
 exact carry_edge l.length 0 l [s] (by simp) (by simp)
def popcF : Nat → Nat → Nat
 | 0, _ => 0
 | f + 1, n => if n = 0 then 0 else n % 2 + popcF f (n / 2)
theorem popcF_any : ∀ (f g n : Nat), n < f → n < g → popcF f n = popcF g n := by
 intro f
 induction f with
 | zero => intro g n hf; omega
 | succ f ih =>
  intro g n hf hg
  cases g with
  | zero => omega
  | succ g =>
   by_cases h0 : n = 0
   ·
    rw [popcF, popcF, if_pos h0, if_pos h0]
   ·
    rw [popcF, popcF, if_neg h0, if_neg h0, ih g (n / 2) (by omega) (by omega)]
def popc (n : Nat) : Nat := popcF (n + 1) n
theorem popc_zero : popc 0 = 0 := rfl
theorem popc_step {n : Nat} (h : n ≠ 0) : popc n = n % 2 + popc (n / 2) := by
 unfold popc
 rw [popcF, if_neg h, popcF_any n (n / 2 + 1) (n / 2) (by omega) (by omega)]
theorem carry_len (n : Nat) : ∀ (hs : List ByteArray) (h : ByteArray), hs.length = popc n → (carry n hs h).length = popc (n + 1) := by
 refine natRec (P := fun n => ∀ (hs : List ByteArray) (h : ByteArray), hs.length = popc n → (carry n hs h).length = popc (n + 1)) ?_ n
 intro n ih hs h hl
 by_cases hn : n % 2 = 1
 ·
  rw [popc_step (by omega), hn] at hl
  rcases List.eq_nil_or_concat hs with rfl | ⟨q, g, rfl⟩
  ·
   simp at hl
   omega
  ·
   rw [List.concat_eq_append] at *
   have hq : q.length = popc (n / 2) := by simp at hl; omega
   rw [carry_odd hn, ih (n / 2) (by omega) q _ hq, popc_step (n := n + 1) (by omega), show (n + 1) % 2 = 0 by omega, show (n + 1) / 2 = n / 2 + 1 by omega]
   omega
 ·
  rw [carry_even hn, List.length_append, hl, popc_step (n := n + 1) (by omega), show (n + 1) % 2 = 1 by omega, show (n + 1) / 2 = n / 2 by omega]
  by_cases h0 : n = 0
  ·
   subst h0; simp [popc_zero]
  ·
   rw [popc_step h0, show n % 2 = 0 by omega]; simp; omega
theorem carry_sizes (n : Nat) : ∀ (hs : List ByteArray) (h : ByteArray), (∀ s ∈ hs, s.size = 32) → h.size = 32 → ∀ s ∈ carry n hs h, s.size = 32 := by
 refine natRec (P := fun n => ∀ (hs : List ByteArray) (h : ByteArray), (∀ s ∈ hs, s.size = 32) → h.size = 32 → ∀ s ∈ carry n hs h, s.size = 32) ?_ n
 intro n ih hs h hl h32
 by_cases hn : n % 2 = 1
 ·
  rw [carry_if, if_pos hn]
  exact ih (n / 2) (by omega) _ _ (fun s hs' => hl s (List.dropLast_subset _ hs')) (nodeH_size _ _)
 ·
  rw [carry_even hn]
  intro s hs'
  rcases List.mem_append.1 hs' with h1 | h1
  ·
   exact hl s h1
  ·
   simp at h1; rw [h1]; exact h32
theorem edge_sizes (l : List ByteArray) : ∀ s ∈ edge l, s.size = 32 := by
 refine lenRec (P := fun l => ∀ s ∈ edge l, s.size = 32) ?_ l
 intro l ih
 by_cases h : 1 ≤ l.length
 ·
  have hp := top_pos h
  rw [edge_some h]
  intro s hs
  rcases List.mem_cons.1 hs with rfl | hs
  ·
   exact root_size _
  ·
   exact ih _ (dropT_lt h) s hs
 ·
  obtain rfl : l = [] := List.eq_nil_of_length_eq_zero (by omega)
  rw [edge_nil]; intro s hs; cases hs
theorem edge_lenN : ∀ (N : Nat) (l : List ByteArray), l.length = N → (edge l).length = popc N := by
 intro N
 induction N with
 | zero =>
  intro l h
  obtain rfl : l = [] := List.eq_nil_of_length_eq_zero h
  rw [edge_nil, popc_zero]; rfl
 | succ n ih =>
  intro l h
  rcases List.eq_nil_or_concat l with rfl | ⟨q, s, rfl⟩
  ·
   cases h
  ·
   rw [List.concat_eq_append] at *
   have hq : q.length = n := by simp at h; exact h
   rw [← carry_one, hq, carry_len _ _ _ (ih q hq)]
theorem edge_len (l : List ByteArray) : (edge l).length = popc l.length := edge_lenN _ l rfl
theorem popc_le : ∀ n : Fin 256, popc n.val ≤ 8 := by decide +kernel
def okE (n : Int) (hs : List ByteArray) : Bool := decide (0 ≤ n ∧ n ≤ 200) && decide (hs.length = popc n.toNat) && hs.all (fun s => decide (s.size = 32))
def addE (n : Int) (hs : List ByteArray) (s : ByteArray) : Int × List ByteArray × Bool :=
 if okE n hs = true ∧ n ≠ 200 then (n + 1, carry n.toNat hs (leafH s), true) else (n, hs, false)
def rootE (n : Int) (hs : List ByteArray) : ByteArray := if okE n hs = true then eroot hs else ⟨#[]⟩
def goE (n : Int) (hs : List ByteArray) : List ByteArray → Option (Int × List ByteArray)
 | [] => some (n, hs)
 | s :: r => if (addE n hs s).2.2 = true then goE (addE n hs s).1 (addE n hs s).2.1 r else none
def allE (n : Int) (hs l : List ByteArray) : Int × List ByteArray × Bool := match goE n hs l with
 | some (m, r) => (m, r, true)
 | none => (n, hs, false)
theorem okE_iff {n : Int} {hs : List ByteArray} : okE n hs = true ↔ (0 ≤ n ∧ n ≤ 200) ∧ hs.length = popc n.toNat ∧ ∀ s ∈ hs, s.size = 32 := by
 unfold okE
 simp [and_assoc]
theorem okE_edge {l : List ByteArray} (h : l.length ≤ 200) : okE (l.length : Int) (edge l) = true :=
 okE_iff.2 ⟨by omega, by rw [edge_len, Int.toNat_natCast], edge_sizes l⟩
theorem addE_yes {n : Int} {hs : List ByteArray} (h : okE n hs = true) (h2 : n ≠ 200) (s : ByteArray) : addE n hs s = (n + 1, carry n.toNat hs (leafH s), true) := by
 unfold addE; rw [if_pos ⟨h, h2⟩]
theorem addE_no {n : Int} {hs : List ByteArray} (h : ¬ (okE n hs = true ∧ n ≠ 200)) (s : ByteArray) : addE n hs s = (n, hs, false) := by
 unfold addE; rw [if_neg h]
theorem addE_ok {n : Int} {hs : List ByteArray} (h : okE n hs = true) (h2 : n ≠ 200) (s : ByteArray) : okE (n + 1) (carry n.toNat hs (leafH s)) = true := by
 obtain ⟨a, b, c⟩ := okE_iff.1 h
 refine okE_iff.2 ⟨by omega, ?_, carry_sizes _ _ _ c (leafH_size s)⟩
 rw [carry_len _ _ _ b, show (n + 1).toNat = n.toNat + 1 by omega]
theorem addE_edge {l : List ByteArray} (h : l.length < 200) (s : ByteArray) : addE (l.length : Int) (edge l) s = (((l ++ [s]).length : Int), edge (l ++ [s]), true) := by
 rw [addE_yes (okE_edge (by omega)) (by omega), Int.toNat_natCast, carry_one, List.length_append]
 rfl
theorem goE_edge : ∀ (r l : List ByteArray), l.length + r.length ≤ 200 → goE (l.length : Int) (edge l) r = some (((l ++ r).length : Int), edge (l ++ r))
 | [], l, _ => by rw [List.append_nil]; rfl
 | s :: r, l, h => by
  have hl : l.length < 200 := by simp at h; omega
  rw [goE, addE_edge hl, if_pos rfl]
  have := goE_edge r (l ++ [s]) (by simp at h ⊢; omega)
  rw [this, List.append_assoc]
  rfl
theorem allE_edge {l r : List ByteArray} (h : l.length + r.length ≤ 200) : allE (l.length : Int) (edge l) r = (((l ++ r).length : Int), edge (l ++ r), true) := by
 unfold allE; rw [goE_edge r l h]
theorem rootE_edge {l : List ByteArray} (h : l.length ≤ 200) : rootE (l.length : Int) (edge l) = root l := by
 unfold rootE; rw [if_pos (okE_edge h), eroot_edge]
end Go.Proofs.YtchonoonclllbabGreatDoor.Ed
namespace Go.Proofs.YtchonoonclllbabGreatDoor.Sr
open Go.RowKit Go.Proofs.YtchonoonclllbabGreatDoor.Mem Go.Proofs.YtchonoonclllbabGreatDoor.Laws Go.Proofs.YtchonoonclllbabGreatDoor.Sha Go.Proofs.YtchonoonclllbabGreatDoor.Tr Go.Proofs.YtchonoonclllbabGreatDoor.He Go.Proofs.YtchonoonclllbabGreatDoor.Lg
set_option linter.unusedVariables false
set_option linter.unusedSimpArgs false
def commitQ (st : Sto) (t : List Hd) (h : Hd) (x : List ByteArray) : Sto × Int := if st.b.length + (putC h x).length ≤ 60000 then commit1 st t h x else (st, 1)
theorem putC_yes {h : Hd} {x : List ByteArray} (hk : okH h = true) (h1 : 1 ≤ x.length) (h2 : x.length ≤ 200) : putC h x = put h x := by unfold putC; rw [if_pos ⟨hk, h1, h2⟩]
theorem replay_pre (xs : List Int) : ∀ (f a : Nat) (l : List ByteArray) (hd : Hd), l <+: (replayF f xs a l hd).1 := by
 intro f
 induction f with
 | zero => intro a l hd; exact List.prefix_refl _
 | succ f ih2 =>
  intro a l hd
  rw [replayF]
  split
  ·
   split
   ·
    split
    ·
     exact (List.prefix_append _ _).trans (ih2 _ _ _)
    ·
     exact List.prefix_append _ _
   ·
    exact List.prefix_refl _
  ·
   exact List.prefix_refl _
def fin12 (xs : List Int) (T : List ByteArray) (f a : Nat) (l : List ByteArray) (hd : Hd) : Bool := (replayF f xs a l hd).2.2 && decide ((replayF f xs a l hd).1 = T)
theorem fin_end {xs : List Int} {T l : List ByteArray} {f a : Nat} {hd : Hd} (h : ¬ a < xs.length) : fin12 xs T f a l hd = decide (l = T) := by
 unfold fin12
 cases f with
 | zero => exact Bool.true_and _
 | succ f => rw [replayF, if_neg h]; simp
theorem fin_no {xs : List Int} {T l : List ByteArray} {f a : Nat} {hd : Hd} (h : a < xs.length) (hf : xs.length - a ≤ f) (hg : (getC xs (a : Int)).2.2.2 = false) : fin12 xs T f a l hd = false := by
 obtain ⟨f, rfl⟩ : ∃ k, f = k + 1 := ⟨f - 1, by omega⟩
 unfold fin12
 rw [replayF, if_pos h, if_neg (by rw [hg]; simp)]
 simp
theorem fin_far {xs : List Int} {T l : List ByteArray} {f a : Nat} {hd : Hd} (h : a < xs.length) (hf : xs.length - a ≤ f) (hT : ¬ (l ++ (getC xs (a : Int)).2.1) <+: T) : fin12 xs T f a l hd = false := by
 obtain ⟨f, rfl⟩ : ∃ k, f = k + 1 := ⟨f - 1, by omega⟩
 unfold fin12
 rw [replayF, if_pos h]
 split
 ·
  split
  ·
   have hp := replay_pre xs f (getC xs (a : Int)).2.2.1.toNat (l ++ (getC xs (a : Int)).2.1) (getC xs (a : Int)).1
   have hne : ¬ (replayF f xs (getC xs (a : Int)).2.2.1.toNat (l ++ (getC xs (a : Int)).2.1) (getC xs (a : Int)).1).1 = T := fun e => hT (by rw [e] at hp; exact hp)
   simp [hne]
  ·
   simp
 ·
  simp
theorem fin_head {xs : List Int} {T l : List ByteArray} {f a : Nat} {hd : Hd} (h : a < xs.length) (hf : xs.length - a ≤ f) (he : eqH (getC xs (a : Int)).1 (headOf (l ++ (getC xs (a : Int)).2.1)) = false) : fin12 xs T f a l hd = false := by
 obtain ⟨f, rfl⟩ : ∃ k, f = k + 1 := ⟨f - 1, by omega⟩
 unfold fin12
 rw [replayF, if_pos h]
 split
 ·
  rw [if_neg (by rw [he]; simp)]; simp
 ·
  simp
theorem fin_go {xs : List Int} {T l x : List ByteArray} {f a q : Nat} {hd h : Hd} (hlt : a < xs.length) (hf : xs.length - a ≤ f) (hg : getC xs (a : Int) = (h, x, (q : Int), true)) (haq : a < q) (hl : (l ++ x).length ≤ 200) (he : eqH h (headOf (l ++ x)) = true) :
  ∃ f', xs.length - q ≤ f' ∧ fin12 xs T f a l hd = fin12 xs T f' q (l ++ x) h := by
 obtain ⟨f, rfl⟩ : ∃ k, f = k + 1 := ⟨f - 1, by omega⟩
 refine ⟨f, by omega, ?_⟩
 rw [List.length_append] at hl
 unfold fin12
 conv => lhs; rw [replayF, if_pos hlt, hg]
 simp only [Int.toNat_natCast]
 rw [if_pos ⟨trivial, hl⟩, if_pos he]
theorem pre_take {T x : List ByteArray} {m : Nat} (hm : m ≤ T.length) : (T.take m ++ x) <+: T ↔ x <+: T.drop m := by
 conv => lhs; rhs; rw [← List.take_append_drop m T]
 exact List.prefix_append_right_inj _
theorem pre_eq {D x : List ByteArray} (h : x.length ≤ D.length) : x = D.take x.length ↔ x <+: D := by
 constructor
 ·
  intro e; rw [e]; exact List.take_prefix _ _
 ·
  intro e; exact List.prefix_iff_eq_take.1 e
theorem take_more {T x : List ByteArray} {m : Nat} (hm : m ≤ T.length) (hx : x <+: T.drop m) : T.take m ++ x = T.take (m + x.length) ∧ m + x.length ≤ T.length := by
 have e := List.prefix_iff_eq_take.1 hx
 have hl := hx.length_le
 rw [List.length_drop] at hl
 refine ⟨?_, by omega⟩
 rw [List.take_add, ← e]
theorem storeOk_fin (st : Sto) (h1 : logOk st.l st.h = true) (h2 : st.b.length ≤ 60000) (h3 : 0 ≤ st.s ∧ st.s ≤ (st.b.length : Int)) : storeOk st = fin12 st.b st.l st.b.length 0 [] (headOf []) := by
 unfold storeOk fin12 replay
 rw [h1]
 simp [h2, h3.1, h3.2]
theorem storeOk_no (st : Sto) (h : ¬ (logOk st.l st.h = true ∧ st.b.length ≤ 60000 ∧ 0 ≤ st.s ∧ st.s ≤ (st.b.length : Int))) : storeOk st = false := by
 rw [← Bool.not_eq_true]
 intro q
 obtain ⟨a, b, c, d, _⟩ := ok_parts q
 exact h ⟨a, b, c, d⟩
theorem headOf_edge {T : List ByteArray} {m : Nat} (h2 : T.length ≤ 200) (hm : m ≤ T.length) : headOf (T.take m) = ⟨(m : Int), Ed.rootE (m : Int) (Ed.edge (T.take m))⟩ := by
 have hl : (T.take m).length = m := by rw [List.length_take]; omega
 unfold headOf
 rw [if_pos (by omega), hl]
 have := Ed.rootE_edge (l := T.take m) (by omega)
 rw [hl] at this
 rw [this]
theorem open_stop {t : List Hd} {xs : List Int} {f a n : Nat} {st : Sto} (h : (getC xs (a : Int)).2.2.2 = false ∨ ¬ (commit1 st t (getC xs (a : Int)).1 (getC xs (a : Int)).2.1).2 = 0) : openF f t xs a st n = (st, n) := by
 cases f with
 | zero => rfl
 | succ f =>
  rw [openF]
  split
  ·
   rw [if_neg]
   rintro ⟨h1, h2⟩
   rcases h with h | h
   ·
    rw [h] at h1; cases h1
   ·
    exact h h2
  ·
   rfl
theorem open_go {t : List Hd} {xs : List Int} {f a n : Nat} {st : Sto} {h : Hd} {x : List ByteArray} {p : Int} (hb : Byt xs) (ha : a ≤ xs.length) (hst : st.b = xs.take a) (hf : xs.length - a ≤ f) (hg : getC xs (a : Int) = (h, x, p, true)) (hc : (commit1 st t h x).2 = 0) :
  ∃ f' q : Nat, a < q ∧ q ≤ xs.length ∧ xs.length - q ≤ f' ∧ commit1 st t h x = (⟨st.l ++ x, h, xs.take q, st.s⟩, 0) ∧ openF f t xs a st n = openF f' t xs q ⟨st.l ++ x, h, xs.take q, st.s⟩ (n + 1) ∧ st.b.length + (putC h x).length = q := by
 obtain ⟨q, rfl, hq, hqx, hk, h1, h2, hbl, hd⟩ := put_get hb hg
 have hp5 := put_pos h x
 obtain ⟨f, rfl⟩ : ∃ k, f = k + 1 := ⟨f - 1, by omega⟩
 obtain ⟨_, _, _, _, _, _, hs⟩ := commit1_good hc
 have e5 : xs.take q = xs.take a ++ put h x := by
  rw [hq, List.take_add, hd, List.take_append_of_le_length (Nat.le_refl _), List.take_of_length_le (Nat.le_refl _)]
 have hcc : commit1 st t h x = (⟨st.l ++ x, h, xs.take q, st.s⟩, 0) := by
  refine Prod.ext ?_ hc
  rw [hs, hst, e5]
 refine ⟨f, q, by omega, hqx, by omega, hcc, ?_, ?_⟩
 ·
  rw [openF, if_pos (by omega), hg]
  simp only
  rw [if_pos ⟨trivial, hc⟩, hcc]
  simp only [Int.toNat_natCast]
 ·
  rw [putC_yes hk h1 h2, hst, List.length_take]
  omega
theorem commitQ_got {t : List Hd} {xs : List Int} {a : Nat} {st : Sto} {h : Hd} {x : List ByteArray} {p : Int} (hb : Byt xs) (h6 : xs.length ≤ 60000) (ha : a ≤ xs.length) (hst : st.b = xs.take a) (hg : getC xs (a : Int) = (h, x, p, true)) : commitQ st t h x = commit1 st t h x := by
 obtain ⟨q, rfl, hq, hqx, hk, h1, h2, hbl, hd⟩ := put_get hb hg
 unfold commitQ
 rw [if_pos]
 rw [putC_yes hk h1 h2, hst, List.length_take]
 omega
end Go.Proofs.YtchonoonclllbabGreatDoor.Sr
