/- Texts in one: MiY. -/
import Derived.Test.YtchonoonclllbabGreatDoorPb6
import Derived.Test.YtchonoonclllbabGreatDoorPb14
import Derived.Test.YtchonoonclllbabGreatDoorPb15
import Derived.Test.YtchonoonclllbabGreatDoorPb20
import Derived.Test.YtchonoonclllbabGreatDoorPb36
import Derived.Deep.DeepCutAuto
namespace Go.Proofs.YtchonoonclllbabGreatDoor.Mi
open Go.RowKit Go.Proofs.YtchonoonclllbabGreatDoor.Mem Go.Proofs.YtchonoonclllbabGreatDoor.Laws Go.Proofs.YtchonoonclllbabGreatDoor.Bytes Go.Proofs.YtchonoonclllbabGreatDoor.Sha Go.Proofs.YtchonoonclllbabGreatDoor.Tr Go.Proofs.YtchonoonclllbabGreatDoor.He Go.Proofs.YtchonoonclllbabGreatDoor.Lg Go.Proofs.YtchonoonclllbabGreatDoor.Sr Go.Proofs.YtchonoonclllbabGreatDoor.Mg
set_option linter.unusedVariables false
set_option linter.unusedSimpArgs false
set_option maxRecDepth 1000000 in
set_option maxHeartbeats 16000000 in
theorem sz_msg2 (w : World) (v : Value) (k f tt n : Int) (hq : Hd) (x : List ByteArray) (left : Nat) (hs : Sl w v (ss x)) (hz : ∀ s ∈ x, s.size ≤ 9223372036854775807) (hl : x.length ≤ 9223372036854775807) (hr : hq.r.size ≤ 9223372036854775807) (hlf : left ≤ 1048576) :
  Calls Tryz.prog 10 #[.agg #[.int .i64 k, .int .i64 f, .int .i64 tt, .int .i64 hq.n, .string hq.r, .int .i64 n, v], .int .i64 (left : Int)] w fun e w' => (∃ r : Int, e = .returned (.int .i64 r) ∧ (r < 0 ∨ (x.length + Puts.tot x ≤ 1048576 ∧ hq.r.size ≤ 1048576))) ∧ Below w.heap.size w w' := by
 have HS : Hid (Sl w v (ss x)) := hs
 obtain ⟨ao3, cap3, rfl, hc3⟩ := hs.form
 simp only [ss_len] at *
 clear hs
 have B0 : Hid (Below w.heap.size w w) := Below.refl _ _
 obtain ⟨W1, HW1, b1, y1, hS1, r_a1⟩ := Ke.l1 w #[.int .i64 k, .int .i64 f, .int .i64 tt, .int .i64 hq.n, .string hq.r, .int .i64 n, .slice ao3 x.length cap3] 34
 have z1 := b1.size
 have B1 := Ke.b B0 b1
 have c_a1 := Ke.c r_a1
 have q1 : ∀ W, _ := fun W => sz_head W hq (left : Int) hr (by omega) (by omega)
 go_enter Tryz.func10, Tryz.ntmps10
 by_cases hb : (left : Int) - (hq.r.size : Int) < 0
 ·
  simp only [if_pos hb] at q1
  go_wp2_with fail
  rw [HW1.out]
  refine (q1 W1).mono ?_
  rintro e W2 ⟨rfl, b2⟩
  have z2 := b2.size
  have B2 := Ke.b B1 b2
  have r_a2 := Ke.r r_a1 b2
  have c_a2 := Ke.c r_a2
  clear r_a1 c_a1
  go_wp2
  go_ret
  exact ⟨⟨-1, rfl, .inl (by omega)⟩, B2.out⟩
 ·
  simp only [if_neg hb] at q1
  have h5 : hq.r.size ≤ 1048576 := by omega
  obtain ⟨m1, hm1⟩ : ∃ m1 : Nat, (left : Int) - (hq.r.size : Int) = (m1 : Int) := ⟨((left : Int) - (hq.r.size : Int)).toNat, by omega⟩
  simp only [hm1] at q1
  have hm1b : m1 ≤ 1048576 := by omega
  have hm1c : ¬ (m1 : Int) < 0 := by omega
  clear hm1
  go_wp2_with fail
  rw [HW1.out]
  refine (q1 W1).mono ?_
  rintro e W2 ⟨rfl, b2⟩
  have z2 := b2.size
  have B2 := Ke.b B1 b2
  have r_a2 := Ke.r r_a1 b2
  have c_a2 := Ke.c r_a2
  clear r_a1 c_a1
  go_wp2_with fail
  refine (Strs.sz_any2 W2 _ x m1 (HS.out.later B2.out) hz hl hm1b).mono ?_
  rintro e WX ⟨⟨r9, rfl, hr9⟩, hWX⟩
  subst hWX
  by_cases hr8 : r9 < 0
  ·
   go_wp2
   go_ret
   exact ⟨⟨-1, rfl, .inl (by omega)⟩, B2.out⟩
  have hx1 : x.length + Puts.tot x ≤ 1048576 := by rcases hr9 with h0 | h0; exact absurd h0 hr8; omega
  clear hr9
  go_wp2
  go_ret
  exact ⟨⟨r9, rfl, .inr ⟨hx1, h5⟩⟩, B2.out⟩
theorem hear_len (m : Mr) (t : List Hd) (q : Ms) (h1 : m.st.l.length ≤ 1048576) (h2 : m.st.b.length ≤ 1048576) (h3 : q.x.length ≤ 1048576) : (hear m t q).1.st.l.length ≤ 2097152 ∧ (hear m t q).1.st.b.length ≤ 2097152 ∧ ∀ z ∈ (hear m t q).2, z.x.length ≤ 1000000000 := by
 unfold hear
 split
 ·
  unfold hear1
  split
  ·
   split
   ·
    rw [(better_id _ _).2.1]
    exact ⟨by omega, by omega, ask_len _ _⟩
   ·
    exact ⟨by simp only; omega, by simp only; omega, fun z hz => (by cases hz)⟩
  ·
   split
   ·
    refine ⟨by simp only; omega, by simp only; omega, ?_⟩
    intro z hz
    simp only at hz
    unfold answer at hz
    split at hz
    ·
     obtain rfl := List.mem_singleton.1 hz
     simp only [List.length_drop, List.length_take]
     omega
    ·
     cases hz
   ·
    refine ⟨?_, ?_, fun z hz => (by cases hz)⟩
    ·
     simp only
     unfold takes
     split
     ·
      rename_i hc
      obtain ⟨_, _, _, _, _, _, g7⟩ := commit1_good hc.2.2
      rw [(better_id _ _).2.1, g7]
      simp only [List.length_append]
      omega
     ·
      omega
    ·
     simp only
     unfold takes
     split
     ·
      rename_i hc
      obtain ⟨_, _, _, _, _, _, g7⟩ := commit1_good hc.2.2
      rw [(better_id _ _).2.1, g7]
      simp only [List.length_append]
      omega
     ·
      omega
 ·
  exact ⟨by simp only; omega, by simp only; omega, fun z hz => (by cases hz)⟩
set_option maxRecDepth 1000000 in
set_option maxHeartbeats 16000000 in
theorem exact_hear (w : World) (v vb vt : Value) (id : Int) (l : List ByteArray) (h : Hd) (b : List Int) (s : Int) (g : Hd) (t : List Hd) (hs : Sl w v (ss l)) (hb : Sl w vb (bs b)) (hby : Byt b) (hz : ∀ s ∈ l, s.size ≤ maxLen) (hm : l.length ≤ maxLen) (hmb : b.length ≤ maxLen) (hh : h.r.size ≤ maxLen) (hgm : g.r.size ≤ maxLen) (hst : Sh w vt t) (y0 : ∀ n ∈ t, n.r.size ≤ maxLen) (m0 : t.length ≤ maxLen) (hG : Glob w) (hN : NoC w) {a0 a1 a2 a3 : Addr} (hF : Is.Four w a0 a1 a2 a3) (vx : Value) (k f tt n : Int) (hq : Hd) (x : List ByteArray) (hx : Sl w vx (ss x)) (hzx : ∀ s ∈ x, s.size ≤ maxLen) (hmx : x.length ≤ maxLen) (hhq : hq.r.size ≤ maxLen) :
  Calls Tryz.prog 3 #[.agg #[.int .i64 id, v, .int .i64 h.n, .string h.r, vb, .int .i64 s, .int .i64 g.n, .string g.r], vt, .agg #[.int .i64 k, .int .i64 f, .int .i64 tt, .int .i64 hq.n, .string hq.r, .int .i64 n, vx]] w fun e w' => e = .returned (.bool true) ∧ Below w.heap.size w w' := by
 have HF : Hid (Is.Four w a0 a1 a2 a3) := hF
 have HX : Hid (Sl w vx (ss x)) := hx
 obtain ⟨ao3, cap3, rfl, hc3⟩ := hx.form
 clear hF hx
 have HS : Hid (Sl w v (ss l)) := hs
 have HSB : Hid (Sl w vb (bs b)) := hb
 have HBY : Hid (Byt b) := hby
 have HT : Hid (Sh w vt t) := hst
 have HG : Hid (Glob w) := hG
 have HNC : Hid (NoC w) := hN
 unfold maxLen at *
 obtain ⟨ao0, cap0, rfl, hc0⟩ := hs.form
 obtain ⟨ao1, cap1, rfl, hc1⟩ := hb.form
 obtain ⟨ao2, cap2, rfl, hc2⟩ := hst.form
 simp only [ss_len, bs_len] at *
 clear hs hb hby hst hG hN
 have B0 : Hid (Below w.heap.size w w) := Below.refl _ _
 obtain ⟨W1, HW1, b1, y1, hS1, r_a1, r_aw1⟩ := Ke.l2 w #[.int .i64 id, .slice ao0 l.length cap0, .int .i64 h.n, .string h.r, .slice ao1 b.length cap1, .int .i64 s, .int .i64 g.n, .string g.r] 31 #[.int .i64 k, .int .i64 f, .int .i64 tt, .int .i64 hq.n, .string hq.r, .int .i64 n, .slice ao3 x.length cap3] 34
 have z1 := b1.size
 have B1 := Ke.b B0 b1
 have c_a1 := Ke.c r_a1
 have c_aw1 := Ke.c r_aw1
 go_enter Tryz.func3, Tryz.ntmps3
 go_wp2_with fail
 rw [HW1.out]
 refine (sz_mirror W1 _ _ id l h b s g (HS.out.later B1.out) (HSB.out.later B1.out) (fun s h => by have := hz s h; omega) (by omega) (by omega) (by omega) (by omega)).mono ?_
 rintro e W2 ⟨⟨r0, rfl, hr0⟩, b2⟩
 have z2 := b2.size
 have B2 := Ke.b B1 b2
 have r_a2 := Ke.r r_a1 b2
 have r_aw2 := Ke.r r_aw1 b2
 have c_a2 := Ke.c r_a2
 have c_aw2 := Ke.c r_aw2
 clear r_a1 c_a1 r_aw1 c_aw1
 by_cases hr : r0 < 0
 ·
  go_wp2
  go_ret
  exact ⟨rfl, B2.out⟩
 have hr1 : l.length + Puts.tot l ≤ 1048576 ∧ h.r.size ≤ 1048576 ∧ b.length ≤ 1048576 ∧ g.r.size ≤ 1048576 ∧ 0 ≤ r0 ∧ r0 ≤ 1048576 := by rcases hr0 with h0 | h0; exact absurd h0 hr; exact h0
 obtain ⟨hr1, hzh, hbl, hzg, hr2, hr3⟩ := hr1
 have hl : l.length ≤ 1048576 := by omega
 have HZ : Hid (∀ s ∈ l, s.size ≤ 10000000000) := fun s h => Nat.le_trans (tot_mem14 l s h) (by omega)
 clear hz hr0 hm hmb hh hgm
 obtain ⟨n0, rfl⟩ : ∃ n0 : Nat, r0 = (n0 : Int) := ⟨r0.toNat, by omega⟩
 go_wp2_with fail
 refine (sz_heads W2 _ t n0 (HT.out.later B2.out) (fun n hn => y0 n hn) m0 (by omega)).mono ?_
 rintro e W3 ⟨⟨q0, rfl, hq1, hq0⟩, b3⟩
 have z3 := b3.size
 have B3 := Ke.b B2 b3
 have r_a3 := Ke.r r_a2 b3
 have r_aw3 := Ke.r r_aw2 b3
 have c_a3 := Ke.c r_a3
 have c_aw3 := Ke.c r_aw3
 clear r_a2 c_a2 r_aw2 c_aw2
 by_cases hqn : q0 < 0
 ·
  go_wp2
  go_ret
  exact ⟨rfl, B3.out⟩
 have hfit : 0 ≤ q0 ∧ t.length ≤ 1048576 := by rcases hq0 with h | ⟨h1, h2, h3⟩; exact absurd h hqn; exact ⟨h1, by omega⟩
 obtain ⟨hq2, htl⟩ := hfit
 clear hq0 y0 m0
 obtain ⟨n1, rfl⟩ : ∃ n1 : Nat, q0 = (n1 : Int) := ⟨q0.toNat, by omega⟩
 go_wp2_with fail
 refine (sz_msg2 W3 _ k f tt n hq x n1 (HX.out.later B3.out) (fun s h => by have := hzx s h; omega) (by omega) (by omega) (by omega)).mono ?_
 rintro e W4 ⟨⟨r9, rfl, hr9⟩, b4⟩
 have z4 := b4.size
 have B4 := Ke.b B3 b4
 have r_a4 := Ke.r r_a3 b4
 have r_aw4 := Ke.r r_aw3 b4
 have c_a4 := Ke.c r_a4
 have c_aw4 := Ke.c r_aw4
 clear r_a3 c_a3 r_aw3 c_aw3
 by_cases hr8 : r9 < 0
 ·
  go_wp2
  go_ret
  exact ⟨rfl, B4.out⟩
 obtain ⟨hx1, hzq⟩ : x.length + Puts.tot x ≤ 1048576 ∧ hq.r.size ≤ 1048576 := by rcases hr9 with h0 | h0; exact absurd h0 hr8; exact h0
 have hxl : x.length ≤ 1048576 := by omega
 have hxt : Puts.tot x ≤ 1048576 := by omega
 have HZX : Hid (∀ s ∈ x, s.size ≤ 10000000000) := fun s h => Nat.le_trans (tot_mem14 x s h) (by omega)
 clear hr9 hzx hmx hhq
 have q1 : ∀ W v1 v2 v3 v4, Sl W v1 (ss l) → Sl W v2 (bs b) → Sh W v3 t → Sl W v4 (ss x) → _ := fun W v1 v2 v3 v4 h1 h2 h3 h4 => hear_spec W v1 v2 v3 v4 ⟨id, ⟨l, h, b, s⟩, g⟩ t ⟨k, f, tt, hq, n, x⟩ h1 h2 HBY.out h3 (by simp only; omega) (by simp only; omega) (by omega) HZ.out h4 (by simp only; omega) HZX.out (by simp only; omega) (by simp only; omega)
 have q2 : ∀ W v1 v2 v3 v4, Below w.heap.size w W → Sl W v1 (ss l) → Sl W v2 (bs b) → Sh W v3 t → Sl W v4 (ss x) → _ := fun W v1 v2 v3 v4 hB h1 h2 h3 h4 => hear_impl W v1 v2 v3 v4 ⟨id, ⟨l, h, b, s⟩, g⟩ t ⟨k, f, tt, hq, n, x⟩ (HG.out.later hB) (NoC.later HNC.out hB) (HF.out.later hB) (by simp only; omega) (by simp only; omega) h1 h2 HBY.out h3 (by simp only; omega) (by simp only; omega) (by omega) HZ.out h4 (by simp only; omega) HZX.out (by simp only; omega) (by simp only; omega)
 have q3 : ∀ W, Below w.heap.size w W → _ := fun W hW => to_heads W _ t (HT.out.later hW) (by omega)
 have hRb := hear_len ⟨id, ⟨l, h, b, s⟩, g⟩ t ⟨k, f, tt, hq, n, x⟩ (by simp only; omega) (by simp only; omega) (by simp only; omega)
 obtain ⟨i2, Lx, Hx, Bx, Sx, Gx, Q, hM⟩ : ∃ i2 L H B S G c, hear ⟨id, ⟨l, h, b, s⟩, g⟩ t ⟨k, f, tt, hq, n, x⟩ = (⟨i2, ⟨L, H, B, S⟩, G⟩, c) := ⟨_, _, _, _, _, _, _, rfl⟩
 simp only [hM] at q1 q2 hRb
 have HQL : Hid (∀ m ∈ Q, m.x.length ≤ 1000000000) := hRb.2.2
 have hRb := And.intro hRb.1 hRb.2.1
 clear hM
 go_upto_region 11 with fail
 go_cut [8, 9] (fun s8 s9 wx => ∃ g : Nat, s8 = (.pointer (some ⟨g, 0, none⟩)) ∧ W4.heap.size ≤ g ∧ g < wx.heap.size ∧ Below W4.heap.size W4 wx ∧ ∃ lo_wv hi_wv ao_wv L_wv cap_wv lo_wp hi_wp ao_wp L_wp cap_wp lo_wo hi_wo ao_wo L_wo cap_wo, s9 = .slice ao_wo L_wo cap_wo ∧ W4.heap.size ≤ lo_wv ∧ lo_wv ≤ hi_wv ∧ hi_wv ≤ wx.heap.size ∧ W4.heap.size ≤ lo_wp ∧ lo_wp ≤ hi_wp ∧ hi_wp ≤ wx.heap.size ∧ W4.heap.size ≤ lo_wo ∧ lo_wo ≤ hi_wo ∧ hi_wo ≤ wx.heap.size ∧ (hi_wv ≤ lo_wp ∨ hi_wp ≤ lo_wv) ∧ (hi_wv ≤ lo_wo ∨ hi_wo ≤ lo_wv) ∧ (hi_wp ≤ lo_wo ∨ hi_wo ≤ lo_wp) ∧ Own wx lo_wv hi_wv 9 (.slice ao_wv L_wv cap_wv) (ss Lx) ∧ Own wx lo_wp hi_wp 5 (.slice ao_wp L_wp cap_wp) (bs Bx) ∧ Om wx lo_wo hi_wo (.slice ao_wo L_wo cap_wo) (Q) ∧ (g < lo_wv ∨ hi_wv ≤ g) ∧ (g < lo_wp ∨ hi_wp ≤ g) ∧ (g < lo_wo ∨ hi_wo ≤ g) ∧ wx.heap[g]? = some (.cells #[.int .i64 i2, .slice ao_wv L_wv cap_wv, .int .i64 Hx.n, .string Hx.r, .slice ao_wp L_wp cap_wp, .int .i64 Sx, .int .i64 Gx.n, .string Gx.r] 44 (0, 0)))
 case first =>
  have D4 : Hid (Below W4.heap.size W4 W4) := Below.refl _ _
  refine wp_region_held_drew (S := fun w' => (∀ j, w'.cell? ⟨w.heap.size, j, none⟩ = #[.int .i64 id, .slice ao0 l.length cap0, .int .i64 h.n, .string h.r, .slice ao1 b.length cap1, .int .i64 s, .int .i64 g.n, .string g.r][j]?) ∧ (∀ j, w'.cell? ⟨w.heap.size + 1, j, none⟩ = #[.int .i64 k, .int .i64 f, .int .i64 tt, .int .i64 hq.n, .string hq.r, .int .i64 n, .slice ao3 x.length cap3][j]?)) (by kernel_rfl) ⟨c_a4, c_aw4⟩ (fun hHeld => ?_)
  refine Ke.y 0 rfl (fun _ _ _ h => h) ?_
  try simp only [Act.put, pu1, pu2, pu3, pu4, pu5, pu6]
  refine Ke.y 2 rfl (fun _ _ _ h => h) ?_
  try simp only [Act.put, pu1, pu2, pu3, pu4, pu5, pu6]
  refine Ke.y 4 rfl (fun _ _ _ h => h) ?_
  try simp only [Act.put, pu1, pu2, pu3, pu4, pu5, pu6]
  refine chain4 1 3 5 6 10 (fun aA xA aB wB => aB = aA.put (some 8) xA ∧ Below W4.heap.size W4 wB ∧ (∀ g : Nat, xA = (.pointer (some ⟨g, 0, none⟩)) → W4.heap.size ≤ g ∧ g < wB.heap.size ∧ wB.heap[g]? = some (.cells #[.int .i64 0, .slice none 0 0, .int .i64 0, .string ⟨#[]⟩, .slice none 0 0, .int .i64 0, .int .i64 0, .string ⟨#[]⟩] 44 (0, 0)))) (fun aA xA aB wB => ∃ (v1 : Value) (u1 : Value), aB = (aA.put (some 37) (.agg #[.int .i64 id, v1, .int .i64 h.n, .string h.r, u1, .int .i64 s, .int .i64 g.n, .string g.r])).put (some 8) xA ∧ Below W4.heap.size W4 wB ∧ Sl wB v1 (ss l) ∧ Sl wB u1 (bs b) ∧ (∀ g : Nat, xA = (.pointer (some ⟨g, 0, none⟩)) → W4.heap.size ≤ g ∧ g < wB.heap.size ∧ wB.heap[g]? = some (.cells #[.int .i64 0, .slice none 0 0, .int .i64 0, .string ⟨#[]⟩, .slice none 0 0, .int .i64 0, .int .i64 0, .string ⟨#[]⟩] 44 (0, 0)))) (fun aA xA aB wB => ∃ (v1 : Value) (u1 : Value) (v2 : Value), aB = ((aA.put (some 37) (.agg #[.int .i64 id, v1, .int .i64 h.n, .string h.r, u1, .int .i64 s, .int .i64 g.n, .string g.r])).put (some 39) (v2)).put (some 8) xA ∧ Below W4.heap.size W4 wB ∧ Sl wB v1 (ss l) ∧ Sl wB u1 (bs b) ∧ Sh wB v2 t ∧ (∀ g : Nat, xA = (.pointer (some ⟨g, 0, none⟩)) → W4.heap.size ≤ g ∧ g < wB.heap.size ∧ wB.heap[g]? = some (.cells #[.int .i64 0, .slice none 0 0, .int .i64 0, .string ⟨#[]⟩, .slice none 0 0, .int .i64 0, .int .i64 0, .string ⟨#[]⟩] 44 (0, 0)))) (fun aA xA aB wB => ∃ (v1 : Value) (u1 : Value) (v2 : Value) (v4 : Value), aB = (((aA.put (some 37) (.agg #[.int .i64 id, v1, .int .i64 h.n, .string h.r, u1, .int .i64 s, .int .i64 g.n, .string g.r])).put (some 39) (v2)).put (some 41) (.agg #[.int .i64 k, .int .i64 f, .int .i64 tt, .int .i64 hq.n, .string hq.r, .int .i64 n, v4])).put (some 8) xA ∧ Below W4.heap.size W4 wB ∧ Sl wB v1 (ss l) ∧ Sl wB u1 (bs b) ∧ Sh wB v2 t ∧ Sl wB v4 (ss x) ∧ (∀ g : Nat, xA = (.pointer (some ⟨g, 0, none⟩)) → W4.heap.size ≤ g ∧ g < wB.heap.size ∧ wB.heap[g]? = some (.cells #[.int .i64 0, .slice none 0 0, .int .i64 0, .string ⟨#[]⟩, .slice none 0 0, .int .i64 0, .int .i64 0, .string ⟨#[]⟩] 44 (0, 0)))) (fun aA xA aB wB => ∃ (v1 : Value) (u1 : Value) (v2 : Value) (v4 : Value) (lo_wv hi_wv lo_wp hi_wp lo_wo hi_wo : Nat) (ao_wv : Option Addr) (L_wv cap_wv : Nat) (ao_wp : Option Addr) (L_wp cap_wp : Nat) (ao_wo : Option Addr) (L_wo cap_wo : Nat), aB = ((((aA.put (some 37) (.agg #[.int .i64 id, v1, .int .i64 h.n, .string h.r, u1, .int .i64 s, .int .i64 g.n, .string g.r])).put (some 39) (v2)).put (some 41) (.agg #[.int .i64 k, .int .i64 f, .int .i64 tt, .int .i64 hq.n, .string hq.r, .int .i64 n, v4])).put (some 42) (.tuple #[.agg #[.int .i64 i2, .slice ao_wv L_wv cap_wv, .int .i64 Hx.n, .string Hx.r, .slice ao_wp L_wp cap_wp, .int .i64 Sx, .int .i64 Gx.n, .string Gx.r], .slice ao_wo L_wo cap_wo])).put (some 8) xA ∧ Below W4.heap.size W4 wB ∧ W4.heap.size ≤ lo_wv ∧ lo_wv ≤ hi_wv ∧ hi_wv ≤ wB.heap.size ∧ W4.heap.size ≤ lo_wp ∧ lo_wp ≤ hi_wp ∧ hi_wp ≤ wB.heap.size ∧ W4.heap.size ≤ lo_wo ∧ lo_wo ≤ hi_wo ∧ hi_wo ≤ wB.heap.size ∧ (hi_wv ≤ lo_wp ∨ hi_wp ≤ lo_wv) ∧ (hi_wv ≤ lo_wo ∨ hi_wo ≤ lo_wv) ∧ (hi_wp ≤ lo_wo ∨ hi_wo ≤ lo_wp) ∧ Own wB lo_wv hi_wv 9 (.slice ao_wv L_wv cap_wv) (ss Lx) ∧ Own wB lo_wp hi_wp 5 (.slice ao_wp L_wp cap_wp) (bs Bx) ∧ Om wB lo_wo hi_wo (.slice ao_wo L_wo cap_wo) (Q) ∧ (∀ g : Nat, xA = (.pointer (some ⟨g, 0, none⟩)) → W4.heap.size ≤ g ∧ g < wB.heap.size ∧ wB.heap[g]? = some (.cells #[.int .i64 0, .slice none 0 0, .int .i64 0, .string ⟨#[]⟩, .slice none 0 0, .int .i64 0, .int .i64 0, .string ⟨#[]⟩] 44 (0, 0)) ∧ (g < lo_wv ∨ hi_wv ≤ g) ∧ (g < lo_wp ∨ hi_wp ≤ g) ∧ (g < lo_wo ∨ hi_wo ≤ g))) (by decide) (by decide) (by decide) (by decide) (by kernel_rfl) (by kernel_rfl) (by kernel_rfl) (by kernel_rfl) (by kernel_rfl) (by kernel_rfl) (by kernel_rfl) (by kernel_rfl) ?hC0x11 ?hC1x11 ?hC2x11 ?hC3x11 ?hA0x11 ?hA1x11 ?hA2x11 ?hA3x11 ?tJx11 ?tKx11 ?h0x11 hHeld
  case hC0x11 =>
   rintro xA a1 wq ⟨rfl, hD, hx⟩ hHeld
   have hBw : Below w.heap.size w wq := B4.out.trans (hD.mono B4.out.size)
   refine wpOp_weak rfl (fun K hK => ?_)
   try simp only [Act.put, pu1, pu2, pu3, pu4, pu5, pu6]
   go_simp
   refine (to_mirror wq _ _ id l h b s g (HS.out.later hBw) (HSB.out.later hBw) (by omega) (by omega)).mono ?_
   rintro e w2 ⟨v1, u1, rfl, p9, p5, b2⟩
   refine hK.out _ _ ⟨⟨(Ke.k (W := wq) hHeld.1 b2), (Ke.k (W := wq) hHeld.2 b2)⟩, v1, u1, rfl, hD.trans (b2.mono hD.size), p9.sl, p5.sl, fun g hg => ?_⟩
   obtain ⟨g1, g2, g3⟩ := hx g hg
   exact ⟨g1, by have := b2.size; omega, rowKeep g3 b2⟩
  case hC1x11 =>
   rintro xA a1 wq ⟨v1, u1, rfl, hD, hf0, hf1, hx⟩ hHeld
   have hBw : Below w.heap.size w wq := B4.out.trans (hD.mono B4.out.size)
   refine wpOp_weak rfl (fun K hK => ?_)
   try simp only [Act.put, pu1, pu2, pu3, pu4, pu5, pu6]
   go_simp
   refine (q3 wq hBw).mono ?_
   rintro e w2 ⟨v2, rfl, p9, b2⟩
   refine hK.out _ _ ⟨⟨(Ke.k (W := wq) hHeld.1 b2), (Ke.k (W := wq) hHeld.2 b2)⟩, v1, u1, v2, rfl, hD.trans (b2.mono hD.size), Sl.later hf0 b2, Sl.later hf1 b2, p9.sh, fun g hg => ?_⟩
   obtain ⟨g1, g2, g3⟩ := hx g hg
   exact ⟨g1, by have := b2.size; omega, rowKeep g3 b2⟩
  case hC2x11 =>
   rintro xA a1 wq ⟨v1, u1, v2, rfl, hD, hf0, hf1, hf2, hx⟩ hHeld
   have hBw : Below w.heap.size w wq := B4.out.trans (hD.mono B4.out.size)
   refine wpOp_weak rfl (fun K hK => ?_)
   try simp only [Act.put, pu1, pu2, pu3, pu4, pu5, pu6]
   go_simp
   refine (to_msg wq _ ⟨k, f, tt, hq, n, x⟩ (HX.out.later hBw) (by simp only; omega)).mono ?_
   rintro e w2 ⟨v4, rfl, p9, b2⟩
   refine hK.out _ _ ⟨⟨(Ke.k (W := wq) hHeld.1 b2), (Ke.k (W := wq) hHeld.2 b2)⟩, v1, u1, v2, v4, rfl, hD.trans (b2.mono hD.size), Sl.later hf0 b2, Sl.later hf1 b2, Sh.later hf2 b2, p9.sl, fun g hg => ?_⟩
   obtain ⟨g1, g2, g3⟩ := hx g hg
   exact ⟨g1, by have := b2.size; omega, rowKeep g3 b2⟩
  case hC3x11 =>
   rintro xA a1 wq ⟨v1, u1, v2, v4, rfl, hD, hf0, hf1, hf2, hf3, hx⟩ hHeld
   have hBw : Below w.heap.size w wq := B4.out.trans (hD.mono B4.out.size)
   refine wpOp_weak rfl (fun K hK => ?_)
   try simp only [Act.put, pu1, pu2, pu3, pu4, pu5, pu6]
   go_simp
   refine (q1 wq _ _ _ _ hf0 hf1 hf2 hf3).mono ?_
   rintro e w2 ⟨v_wv, v_wp, v_wo, mid, rfl, e8, e9, p9, p5, pm, b2⟩
   obtain ⟨lo_wv, hi_wv, lo_wp, hi_wp, e1, e2, e3, e4, e5, e6, e7, oo_wv, oo_wp⟩ := pairN p9 p5 e8
   obtain ⟨ao_wv, L_wv, cap_wv, rfl, _, _⟩ := oo_wv.form
   obtain ⟨ao_wp, L_wp, cap_wp, rfl, _, _⟩ := oo_wp.form
   obtain ⟨ao_wo, L_wo, cap_wo, rfl, hL8, hL9⟩ := pm.form
   clear hL8 hL9
   obtain ⟨lo_wo, hi_wo, e10, e11, oo_wo⟩ : ∃ lo hi, lo = mid ∧ hi = w2.heap.size ∧ Om w2 lo hi (.slice ao_wo L_wo cap_wo) Q := ⟨_, _, rfl, rfl, pm⟩
   have hzq := b2.size
   have hzd := hD.size
   refine hK.out _ _ ⟨⟨(Ke.k (W := wq) hHeld.1 b2), (Ke.k (W := wq) hHeld.2 b2)⟩, v1, u1, v2, v4, lo_wv, hi_wv, lo_wp, hi_wp, lo_wo, hi_wo, ao_wv, L_wv, cap_wv, ao_wp, L_wp, cap_wp, ao_wo, L_wo, cap_wo, rfl, hD.trans (b2.mono hD.size), by omega, by omega, by omega, by omega, by omega, by omega, by omega, by omega, by omega, by omega, by omega, by omega, oo_wv, oo_wp, oo_wo, fun g hg => ?_⟩
   obtain ⟨g1, g2, g3⟩ := hx g hg
   exact ⟨g1, by omega, rowKeep g3 b2, by omega, by omega, by omega⟩
  case hA0x11 =>
   rintro a1 wq ⟨rfl, hD, hx⟩ hHeld
   refine wpOp_weak rfl (fun K hK => ?_)
   try simp only [Act.put, pu1, pu2, pu3, pu4, pu5, pu6]
   go_simp
   refine hK.out _ _ ⟨⟨(Ke.k (W := wq) hHeld.1 ((Below.refl _ _).alloc (Nat.le_refl _) _)), (Ke.k (W := wq) hHeld.2 ((Below.refl _ _).alloc (Nat.le_refl _) _))⟩, wq.heap.size, rfl, hD.alloc hD.size _, fun g hg => ?_⟩
   obtain rfl : wq.heap.size = g := by simpa using hg
   exact ⟨hD.size, by simp, heap_alloc_new wq _⟩
  case hA1x11 =>
   rintro a1 wq ⟨v1, u1, rfl, hD, hf0, hf1, hx⟩ hHeld
   refine wpOp_weak rfl (fun K hK => ?_)
   try simp only [Act.put, pu1, pu2, pu3, pu4, pu5, pu6]
   go_simp
   refine hK.out _ _ ⟨⟨(Ke.k (W := wq) hHeld.1 ((Below.refl _ _).alloc (Nat.le_refl _) _)), (Ke.k (W := wq) hHeld.2 ((Below.refl _ _).alloc (Nat.le_refl _) _))⟩, wq.heap.size, v1, u1, rfl, hD.alloc hD.size _, Sl.later hf0 ((Below.refl _ _).alloc (Nat.le_refl _) _), Sl.later hf1 ((Below.refl _ _).alloc (Nat.le_refl _) _), fun g hg => ?_⟩
   obtain rfl : wq.heap.size = g := by simpa using hg
   exact ⟨hD.size, by simp, heap_alloc_new wq _⟩
  case hA2x11 =>
   rintro a1 wq ⟨v1, u1, v2, rfl, hD, hf0, hf1, hf2, hx⟩ hHeld
   refine wpOp_weak rfl (fun K hK => ?_)
   try simp only [Act.put, pu1, pu2, pu3, pu4, pu5, pu6]
   go_simp
   refine hK.out _ _ ⟨⟨(Ke.k (W := wq) hHeld.1 ((Below.refl _ _).alloc (Nat.le_refl _) _)), (Ke.k (W := wq) hHeld.2 ((Below.refl _ _).alloc (Nat.le_refl _) _))⟩, wq.heap.size, v1, u1, v2, rfl, hD.alloc hD.size _, Sl.later hf0 ((Below.refl _ _).alloc (Nat.le_refl _) _), Sl.later hf1 ((Below.refl _ _).alloc (Nat.le_refl _) _), Sh.later hf2 ((Below.refl _ _).alloc (Nat.le_refl _) _), fun g hg => ?_⟩
   obtain rfl : wq.heap.size = g := by simpa using hg
   exact ⟨hD.size, by simp, heap_alloc_new wq _⟩
  case hA3x11 =>
   rintro a1 wq ⟨v1, u1, v2, v4, rfl, hD, hf0, hf1, hf2, hf3, hx⟩ hHeld
   refine wpOp_weak rfl (fun K hK => ?_)
   try simp only [Act.put, pu1, pu2, pu3, pu4, pu5, pu6]
   go_simp
   refine hK.out _ _ ⟨⟨(Ke.k (W := wq) hHeld.1 ((Below.refl _ _).alloc (Nat.le_refl _) _)), (Ke.k (W := wq) hHeld.2 ((Below.refl _ _).alloc (Nat.le_refl _) _))⟩, wq.heap.size, v1, u1, v2, v4, rfl, hD.alloc hD.size _, Sl.later hf0 ((Below.refl _ _).alloc (Nat.le_refl _) _), Sl.later hf1 ((Below.refl _ _).alloc (Nat.le_refl _) _), Sh.later hf2 ((Below.refl _ _).alloc (Nat.le_refl _) _), Sl.later hf3 ((Below.refl _ _).alloc (Nat.le_refl _) _), fun g hg => ?_⟩
   obtain rfl : wq.heap.size = g := by simpa using hg
   exact ⟨hD.size, by simp, heap_alloc_new wq _⟩
  case tJx11 =>
   rintro a1 W5 ⟨v1, u1, v2, v4, lo_wv, hi_wv, lo_wp, hi_wp, lo_wo, hi_wo, ao_wv, L_wv, cap_wv, ao_wp, L_wp, cap_wp, ao_wo, L_wo, cap_wo, rfl, D5, d1_wv, d2_wv, d3_wv, d1_wp, d2_wp, d3_wp, d1_wo, d2_wo, d3_wo, d_wv_wp, d_wv_wo, d_wp_wo, oo_wv, oo_wp, oo_wo, hx⟩ hHeld
   have z5 : W4.heap.size ≤ W5.heap.size := D5.size
   have B5 := Ke.b B4 D5
   have D5 : Hid (Below W4.heap.size W4 W5) := D5
   have o_wv5 : Hid (Own W5 lo_wv hi_wv 9 (.slice ao_wv L_wv cap_wv) (ss Lx)) := oo_wv
   clear oo_wv
   have o_wp5 : Hid (Own W5 lo_wp hi_wp 5 (.slice ao_wp L_wp cap_wp) (bs Bx)) := oo_wp
   clear oo_wp
   have o_wo5 : Hid (Om W5 lo_wo hi_wo (.slice ao_wo L_wo cap_wo) (Q)) := oo_wo
   clear oo_wo
   clear hx
   try simp only [Act.put, pu1, pu2, pu3, pu4, pu5, pu6]
   refine Ke.y 7 rfl (fun _ _ _ h => h) ?_
   try simp only [Act.put, pu1, pu2, pu3, pu4, pu5, pu6]
   refine Ke.y 8 rfl (fun _ _ _ h => h) ?_
   try simp only [Act.put, pu1, pu2, pu3, pu4, pu5, pu6]
   refine Ke.y 9 rfl (fun _ _ _ h => h) ?_
   try simp only [Act.put, pu1, pu2, pu3, pu4, pu5, pu6]
   refine Ke.z 10 rfl (fun K hK => ?_)
   go_simp
   refine hK.out _ _ ⟨(Ke.k (W := W5) hHeld.1 ((Below.refl _ _).alloc (Nat.le_refl _) _)), (Ke.k (W := W5) hHeld.2 ((Below.refl _ _).alloc (Nat.le_refl _) _))⟩ (fun hHeld => ?_)
   clear hK K
   try simp only [Act.put, pu1, pu2, pu3, pu4, pu5, pu6]
   obtain ⟨W6, HW6, b6, y6, r_w06⟩ : ∃ X, Hid ((W5.alloc (.cells #[.int .i64 0, .slice none 0 0, .int .i64 0, .string ⟨#[]⟩, .slice none 0 0, .int .i64 0, .int .i64 0, .string ⟨#[]⟩] 44)) = X) ∧ Below W5.heap.size W5 X ∧ W5.heap.size + 1 ≤ X.heap.size ∧ Hid (X.heap[W5.heap.size]? = some (.cells #[.int .i64 0, .slice none 0 0, .int .i64 0, .string ⟨#[]⟩, .slice none 0 0, .int .i64 0, .int .i64 0, .string ⟨#[]⟩] 44 (0, 0))) := ⟨_, rfl, ((Below.refl _ _).alloc (Nat.le_refl _) _), (by show _ ≤ (W5.heap.push _).size; simp), heap_alloc_new W5 _⟩
   have HHW6 := HW6.out
   rw [HHW6] at hHeld ⊢
   clear HHW6
   have z6 := b6.size
   have B6 := Ke.b B5 b6
   have o_wv6 := Ke.o o_wv5 b6
   have o_wp6 := Ke.o o_wp5 b6
   have o_wo6 := Ke.h (Om.later o_wo5.out b6 (by omega))
   have c_w06 := Ke.c r_w06
   clear o_wv5 o_wp5 o_wo5
   have D6 := Ke.b D5 b6
   refine Ke.z 11 rfl (fun K hK => ?_)
   rw [if_pos (by rfl)]
   refine wp_store_row 44 _ _ rfl (W5.heap.size) (mq i2 (.slice ao_wv L_wv cap_wv) Hx (.slice ao_wp L_wp cap_wp) Sx Gx) rfl rfl 44 _ r_w06.out (sizeQ _ _ _ _ _ _) rfl (oneQ _ _ _ _ rfl rfl) ?_
   refine hK.out _ _ ⟨(Ke.w (by show w.heap.size ≠ W5.heap.size; omega) hHeld.1), (Ke.w (by show w.heap.size + 1 ≠ W5.heap.size; omega) hHeld.2)⟩ (fun hHeld => ?_)
   clear hK K
   try simp only [Act.put, pu1, pu2, pu3, pu4, pu5, pu6]
   have D7a : Below W4.heap.size W4 (W6.setRow (W5.heap.size) (mq i2 (.slice ao_wv L_wv cap_wv) Hx (.slice ao_wp L_wp cap_wp) Sx Gx)) := below_setRow D6.out (by omega) _
   obtain ⟨W7, HW7⟩ : ∃ X, Hid (W6.setRow (W5.heap.size) (mq i2 (.slice ao_wv L_wv cap_wv) Hx (.slice ao_wp L_wp cap_wp) Sx Gx) = X) := ⟨_, rfl⟩
   have z7 : W6.heap.size ≤ W7.heap.size := by rw [← HW7.out]; simp
   have B7 : Hid (Below w.heap.size w W7) := by show Below _ _ _; rw [← HW7.out]; exact below_setRow B6.out (by have := B6.out.size; omega) _
   have o_wv7 : Hid (Own W7 (lo_wv) (hi_wv) 9 (.slice ao_wv L_wv cap_wv) (ss Lx)) := by show Own _ _ _ _ _ _; rw [← HW7.out]; exact Own.setRow o_wv6.out _ (by omega)
   have o_wp7 : Hid (Own W7 (lo_wp) (hi_wp) 5 (.slice ao_wp L_wp cap_wp) (bs Bx)) := by show Own _ _ _ _ _ _; rw [← HW7.out]; exact Own.setRow o_wp6.out _ (by omega)
   have o_wo7 : Hid (Om W7 (lo_wo) (hi_wo) (.slice ao_wo L_wo cap_wo) (Q)) := by show Om _ _ _ _ _; rw [← HW7.out]; exact Om.setRow o_wo6.out _ (by omega)
   have r_w07 : Hid (W7.heap[W5.heap.size]? = some (.cells #[.int .i64 i2, .slice ao_wv L_wv cap_wv, .int .i64 Hx.n, .string Hx.r, .slice ao_wp L_wp cap_wp, .int .i64 Sx, .int .i64 Gx.n, .string Gx.r] 44 (0, 0))) := by show _ = _; rw [← HW7.out]; exact setRow_heap _ _ _ _ _ (0, 0) r_w06.out
   rw [HW7.out]
   clear r_w06 c_w06 o_wv6 o_wp6 o_wo6
   have c_w07 := Ke.c r_w07
   rw [HW7.out] at hHeld
   have D7 : Hid (Below W4.heap.size W4 W7) := by show Below _ _ _; rw [← HW7.out]; exact D7a
   refine Ke.y 12 rfl (fun _ _ _ h => h) ?_
   try simp only [Act.put, pu1, pu2, pu3, pu4, pu5, pu6]
   refine wpAnyH_done (by kernel_rfl) ?_ _
   clear hHeld
   go_wp2_with fail
   go_meet
   exact ⟨W5.heap.size, rfl, by omega, (Array.getElem?_eq_some_iff.1 r_w07.out).1, D7.out, lo_wv, hi_wv, ao_wv, L_wv, cap_wv, lo_wp, hi_wp, ao_wp, L_wp, cap_wp, lo_wo, hi_wo, ao_wo, L_wo, cap_wo, rfl, by omega, by omega, by omega, by omega, by omega, by omega, by omega, by omega, by omega, by omega, by omega, by omega, o_wv7.out, o_wp7.out, o_wo7.out, by omega, by omega, by omega, r_w07.out⟩
  case tKx11 =>
   rintro g_w0 a1 W5 ⟨v1, u1, v2, v4, lo_wv, hi_wv, lo_wp, hi_wp, lo_wo, hi_wo, ao_wv, L_wv, cap_wv, ao_wp, L_wp, cap_wp, ao_wo, L_wo, cap_wo, rfl, D5, d1_wv, d2_wv, d3_wv, d1_wp, d2_wp, d3_wp, d1_wo, d2_wo, d3_wo, d_wv_wp, d_wv_wo, d_wp_wo, oo_wv, oo_wp, oo_wo, hx⟩ hHeld
   have z5 : W4.heap.size ≤ W5.heap.size := D5.size
   have B5 := Ke.b B4 D5
   have D5 : Hid (Below W4.heap.size W4 W5) := D5
   obtain ⟨hg1_w0, hg2_w0, hg3_w0, hgf_wv, hgf_wp, hgf_wo⟩ := hx g_w0 rfl
   have r_w05 : Hid (W5.heap[g_w0]? = some (.cells #[.int .i64 0, .slice none 0 0, .int .i64 0, .string ⟨#[]⟩, .slice none 0 0, .int .i64 0, .int .i64 0, .string ⟨#[]⟩] 44 (0, 0))) := hg3_w0
   clear hg3_w0
   have o_wv5 : Hid (Own W5 lo_wv hi_wv 9 (.slice ao_wv L_wv cap_wv) (ss Lx)) := oo_wv
   clear oo_wv
   have o_wp5 : Hid (Own W5 lo_wp hi_wp 5 (.slice ao_wp L_wp cap_wp) (bs Bx)) := oo_wp
   clear oo_wp
   have o_wo5 : Hid (Om W5 lo_wo hi_wo (.slice ao_wo L_wo cap_wo) (Q)) := oo_wo
   clear oo_wo
   clear hx
   try simp only [Act.put, pu1, pu2, pu3, pu4, pu5, pu6]
   have c_w05 := Ke.c r_w05
   refine Ke.y 7 rfl (fun _ _ _ h => h) ?_
   try simp only [Act.put, pu1, pu2, pu3, pu4, pu5, pu6]
   refine Ke.y 8 rfl (fun _ _ _ h => h) ?_
   try simp only [Act.put, pu1, pu2, pu3, pu4, pu5, pu6]
   refine Ke.y 9 rfl (fun _ _ _ h => h) ?_
   try simp only [Act.put, pu1, pu2, pu3, pu4, pu5, pu6]
   refine Ke.z 11 rfl (fun K hK => ?_)
   rw [if_pos (by rfl)]
   refine wp_store_row 44 _ _ rfl (g_w0) (mq i2 (.slice ao_wv L_wv cap_wv) Hx (.slice ao_wp L_wp cap_wp) Sx Gx) rfl rfl 44 _ r_w05.out (sizeQ _ _ _ _ _ _) rfl (oneQ _ _ _ _ rfl rfl) ?_
   refine hK.out _ _ ⟨(Ke.w (by show w.heap.size ≠ g_w0; omega) hHeld.1), (Ke.w (by show w.heap.size + 1 ≠ g_w0; omega) hHeld.2)⟩ (fun hHeld => ?_)
   clear hK K
   try simp only [Act.put, pu1, pu2, pu3, pu4, pu5, pu6]
   have D6a : Below W4.heap.size W4 (W5.setRow (g_w0) (mq i2 (.slice ao_wv L_wv cap_wv) Hx (.slice ao_wp L_wp cap_wp) Sx Gx)) := below_setRow D5.out (by omega) _
   obtain ⟨W6, HW6⟩ : ∃ X, Hid (W5.setRow (g_w0) (mq i2 (.slice ao_wv L_wv cap_wv) Hx (.slice ao_wp L_wp cap_wp) Sx Gx) = X) := ⟨_, rfl⟩
   have z6 : W5.heap.size ≤ W6.heap.size := by rw [← HW6.out]; simp
   have B6 : Hid (Below w.heap.size w W6) := by show Below _ _ _; rw [← HW6.out]; exact below_setRow B5.out (by have := B5.out.size; omega) _
   have o_wv6 : Hid (Own W6 (lo_wv) (hi_wv) 9 (.slice ao_wv L_wv cap_wv) (ss Lx)) := by show Own _ _ _ _ _ _; rw [← HW6.out]; exact Own.setRow o_wv5.out _ (by omega)
   have o_wp6 : Hid (Own W6 (lo_wp) (hi_wp) 5 (.slice ao_wp L_wp cap_wp) (bs Bx)) := by show Own _ _ _ _ _ _; rw [← HW6.out]; exact Own.setRow o_wp5.out _ (by omega)
   have o_wo6 : Hid (Om W6 (lo_wo) (hi_wo) (.slice ao_wo L_wo cap_wo) (Q)) := by show Om _ _ _ _ _; rw [← HW6.out]; exact Om.setRow o_wo5.out _ (by omega)
   have r_w06 : Hid (W6.heap[g_w0]? = some (.cells #[.int .i64 i2, .slice ao_wv L_wv cap_wv, .int .i64 Hx.n, .string Hx.r, .slice ao_wp L_wp cap_wp, .int .i64 Sx, .int .i64 Gx.n, .string Gx.r] 44 (0, 0))) := by show _ = _; rw [← HW6.out]; exact setRow_heap _ _ _ _ _ (0, 0) r_w05.out
   rw [HW6.out]
   clear r_w05 c_w05 o_wv5 o_wp5 o_wo5
   have c_w06 := Ke.c r_w06
   rw [HW6.out] at hHeld
   have D6 : Hid (Below W4.heap.size W4 W6) := by show Below _ _ _; rw [← HW6.out]; exact D6a
   refine Ke.y 12 rfl (fun _ _ _ h => h) ?_
   try simp only [Act.put, pu1, pu2, pu3, pu4, pu5, pu6]
   refine wpAnyH_done (by kernel_rfl) ?_ _
   clear hHeld
   go_wp2_with fail
   go_meet
   exact ⟨g_w0, rfl, by omega, (Array.getElem?_eq_some_iff.1 r_w06.out).1, D6.out, lo_wv, hi_wv, ao_wv, L_wv, cap_wv, lo_wp, hi_wp, ao_wp, L_wp, cap_wp, lo_wo, hi_wo, ao_wo, L_wo, cap_wo, rfl, by omega, by omega, by omega, by omega, by omega, by omega, by omega, by omega, by omega, by omega, by omega, by omega, o_wv6.out, o_wp6.out, o_wo6.out, by omega, by omega, by omega, r_w06.out⟩
  case h0x11 =>
   exact ⟨rfl, Below.drew (Below.refl _ _), fun g hg => by cases hg⟩
 case rest =>
 obtain ⟨g_w0, rfl, hg_w0, hg2_w0, b5, lo_wv, hi_wv, ao_wv, L_wv, cap_wv, lo_wp, hi_wp, ao_wp, L_wp, cap_wp, lo_wo, hi_wo, ao_wo, L_wo, cap_wo, rfl, d1_wv, d2_wv, d3_wv, d1_wp, d2_wp, d3_wp, d1_wo, d2_wo, d3_wo, d_wv_wp, d_wv_wo, d_wp_wo, oo_wv, oo_wp, oo_wo, hgf_wv, hgf_wp, hgf_wo, r_w05⟩ := hcut
 revert hg2_w0 b5 d3_wv d3_wp d3_wo oo_wv oo_wp oo_wo r_w05
 generalize wc = W5
 intro hg2_w0 b5 d3_wv d3_wp d3_wo oo_wv oo_wp oo_wo r_w05
 have r_w05 : Hid (W5.heap[g_w0]? = some (.cells #[.int .i64 i2, .slice ao_wv L_wv cap_wv, .int .i64 Hx.n, .string Hx.r, .slice ao_wp L_wp cap_wp, .int .i64 Sx, .int .i64 Gx.n, .string Gx.r] 44 (0, 0))) := r_w05
 have o_wv5 : Hid (Own W5 lo_wv hi_wv 9 (.slice ao_wv L_wv cap_wv) (ss Lx)) := oo_wv
 clear oo_wv
 have o_wp5 : Hid (Own W5 lo_wp hi_wp 5 (.slice ao_wp L_wp cap_wp) (bs Bx)) := oo_wp
 clear oo_wp
 have o_wo5 : Hid (Om W5 lo_wo hi_wo (.slice ao_wo L_wo cap_wo) (Q)) := oo_wo
 clear oo_wo
 have z5 := b5.size
 have B5 := Ke.b B4 b5
 have r_a5 := Ke.r r_a4 b5
 have r_aw5 := Ke.r r_aw4 b5
 have c_a5 := Ke.c r_a5
 have c_aw5 := Ke.c r_aw5
 have c_w05 := Ke.c r_w05
 clear r_a4 c_a4 r_aw4 c_aw4
 go_wp2_with fail
 refine (to_mirror W5 _ _ id l h b s g (HS.out.later B5.out) (HSB.out.later B5.out) (by omega) (by omega)).mono ?_
 rintro e W6 ⟨v_x, v_xp, rfl, o_x6, o_xp6, b6⟩
 obtain ⟨lo_x, hi_x, lo_xp, hi_xp, d1_x, d2_x, d3_x, d4_x, d5_x, d6_x, d7_x, oo_x, oo_xp⟩ := Sr.pairN o_x6 o_xp6 b6.size
 clear o_x6 o_xp6
 obtain ⟨ao_x, L_x, cap_x, rfl, _, _⟩ := oo_x.form
 obtain ⟨ao_xp, L_xp, cap_xp, rfl, _, _⟩ := oo_xp.form
 have o_x6 : Hid (Own W6 lo_x hi_x 9 (.slice ao_x L_x cap_x) (ss l)) := oo_x
 have o_xp6 : Hid (Own W6 lo_xp hi_xp 5 (.slice ao_xp L_xp cap_xp) (bs b)) := oo_xp
 clear oo_x oo_xp
 have z6 := b6.size
 have B6 := Ke.b B5 b6
 have r_a6 := Ke.r r_a5 b6
 have r_aw6 := Ke.r r_aw5 b6
 have r_w06 := Ke.r r_w05 b6
 have o_wv6 := Ke.o o_wv5 b6
 have o_wp6 := Ke.o o_wp5 b6
 have o_wo6 := Ke.h (Om.later o_wo5.out b6 (by omega))
 have c_a6 := Ke.c r_a6
 have c_aw6 := Ke.c r_aw6
 have c_w06 := Ke.c r_w06
 clear r_a5 c_a5 r_aw5 c_aw5 r_w05 c_w05 o_wv5 o_wp5 o_wo5
 have a_a6 := Ke.a r_a6
 have a_aw6 := Ke.a r_aw6
 have a_w06 := Ke.a r_w06
 obtain ⟨W7, HW7, b7, y7, hS7, r_x07⟩ := Ke.l1 W6 #[.int .i64 id, .slice ao_x L_x cap_x, .int .i64 h.n, .string h.r, .slice ao_xp L_xp cap_xp, .int .i64 s, .int .i64 g.n, .string g.r] 44
 have z7 := b7.size
 have B7 := Ke.b B6 b7
 have r_a7 := Ke.r r_a6 b7
 have r_aw7 := Ke.r r_aw6 b7
 have r_w07 := Ke.r r_w06 b7
 have o_wv7 := Ke.o o_wv6 b7
 have o_wp7 := Ke.o o_wp6 b7
 have o_wo7 := Ke.h (Om.later o_wo6.out b7 (by omega))
 have o_x7 := Ke.o o_x6 b7
 have o_xp7 := Ke.o o_xp6 b7
 have c_a7 := Ke.c r_a7
 have c_aw7 := Ke.c r_aw7
 have c_w07 := Ke.c r_w07
 have c_x07 := Ke.c r_x07
 clear r_a6 c_a6 r_aw6 c_aw6 r_w06 c_w06 o_wv6 o_wp6 o_wo6 o_x6 o_xp6
 go_wp2_with fail
 rw [HW7.out]
 clear a_a6 a_aw6 a_w06
 refine (to_heads W7 _ t (HT.out.later B7.out) (by omega)).mono ?_
 rintro e W8 ⟨v_x1, rfl, o_x18, b8⟩
 have z8 := b8.size
 have B8 := Ke.b B7 b8
 have r_a8 := Ke.r r_a7 b8
 have r_aw8 := Ke.r r_aw7 b8
 have r_w08 := Ke.r r_w07 b8
 have r_x08 := Ke.r r_x07 b8
 have o_wv8 := Ke.o o_wv7 b8
 have o_wp8 := Ke.o o_wp7 b8
 have o_wo8 := Ke.h (Om.later o_wo7.out b8 (by omega))
 have o_x8 := Ke.o o_x7 b8
 have o_xp8 := Ke.o o_xp7 b8
 have c_a8 := Ke.c r_a8
 have c_aw8 := Ke.c r_aw8
 have c_w08 := Ke.c r_w08
 have c_x08 := Ke.c r_x08
 clear r_a7 c_a7 r_aw7 c_aw7 r_w07 c_w07 r_x07 c_x07 o_wv7 o_wp7 o_wo7 o_x7 o_xp7
 have f_x18 : Hid (Oq W8 W7.heap.size W8.heap.size v_x1 t) := ⟨o_x18, Nat.le_refl _⟩
 clear o_x18
 go_wp2_with fail
 refine (to_msg W8 _ ⟨k, f, tt, hq, n, x⟩ (HX.out.later B8.out) (by simp only; omega)).mono ?_
 rintro e W9 ⟨v_xx, rfl, o_xx9, b9⟩
 obtain ⟨ao_xx, L_xx, cap_xx, rfl, hL_xx, hM_xx⟩ := o_xx9.form
 have o_xx9 : Hid (Own W9 W8.heap.size W9.heap.size 9 (.slice ao_xx L_xx cap_xx) (ss x)) := o_xx9
 clear hL_xx hM_xx
 have z9 := b9.size
 have B9 := Ke.b B8 b9
 have r_a9 := Ke.r r_a8 b9
 have r_aw9 := Ke.r r_aw8 b9
 have r_w09 := Ke.r r_w08 b9
 have r_x09 := Ke.r r_x08 b9
 have o_wv9 := Ke.o o_wv8 b9
 have o_wp9 := Ke.o o_wp8 b9
 have o_wo9 := Ke.h (Om.later o_wo8.out b9 (by omega))
 have o_x9 := Ke.o o_x8 b9
 have o_xp9 := Ke.o o_xp8 b9
 have c_a9 := Ke.c r_a9
 have c_aw9 := Ke.c r_aw9
 have c_w09 := Ke.c r_w09
 have c_x09 := Ke.c r_x09
 clear r_a8 c_a8 r_aw8 c_aw8 r_w08 c_w08 r_x08 c_x08 o_wv8 o_wp8 o_wo8 o_x8 o_xp8
 have f_x19 := Ke.h (Oq.later f_x18.out b9)
 clear f_x18
 have a_a9 := Ke.a r_a9
 have a_aw9 := Ke.a r_aw9
 have a_w09 := Ke.a r_w09
 have a_x09 := Ke.a r_x09
 obtain ⟨W10, HW10, b10, y10, hS10, r_x210⟩ := Ke.l1 W9 #[.int .i64 k, .int .i64 f, .int .i64 tt, .int .i64 hq.n, .string hq.r, .int .i64 n, .slice ao_xx L_xx cap_xx] 52
 have z10 := b10.size
 have B10 := Ke.b B9 b10
 have r_a10 := Ke.r r_a9 b10
 have r_aw10 := Ke.r r_aw9 b10
 have r_w010 := Ke.r r_w09 b10
 have r_x010 := Ke.r r_x09 b10
 have o_wv10 := Ke.o o_wv9 b10
 have o_wp10 := Ke.o o_wp9 b10
 have o_wo10 := Ke.h (Om.later o_wo9.out b10 (by omega))
 have o_x10 := Ke.o o_x9 b10
 have o_xp10 := Ke.o o_xp9 b10
 have o_xx10 := Ke.o o_xx9 b10
 have c_a10 := Ke.c r_a10
 have c_aw10 := Ke.c r_aw10
 have c_w010 := Ke.c r_w010
 have c_x010 := Ke.c r_x010
 have c_x210 := Ke.c r_x210
 clear r_a9 c_a9 r_aw9 c_aw9 r_w09 c_w09 r_x09 c_x09 o_wv9 o_wp9 o_wo9 o_x9 o_xp9 o_xx9
 have f_x110 := Ke.h (Oq.later f_x19.out b10)
 clear f_x19
 go_wp2_with fail
 rw [HW10.out]
 clear a_a9 a_aw9 a_w09 a_x09
 refine (q2 W10 _ _ _ _ B10.out o_x10.out.sl o_xp10.out.sl f_x110.out.1.sh o_xx10.out.sl).mono ?_
 rintro e W11 ⟨v_gv, v_gp, v_go, mid, rfl, e8, e9, p9, p5, pm, b11⟩
 obtain ⟨lo_gv, hi_gv, lo_gp, hi_gp, e1, e2, e3, e4, e5, e6, e7, oo_gv, oo_gp⟩ := pairN p9 p5 e8
 obtain ⟨ao_gv, L_gv, cap_gv, rfl, _, _⟩ := oo_gv.form
 obtain ⟨ao_gp, L_gp, cap_gp, rfl, _, _⟩ := oo_gp.form
 obtain ⟨ao_go, L_go, cap_go, rfl, hL8, hL9⟩ := pm.form
 clear hL8 hL9
 obtain ⟨lo_go, hi_go, e10, e11, oo_go⟩ : ∃ lo hi, lo = mid ∧ hi = W11.heap.size ∧ Om W11 lo hi (.slice ao_go L_go cap_go) Q := ⟨_, _, rfl, rfl, pm⟩
 have o_gv11 : Hid (Own W11 lo_gv hi_gv 9 (.slice ao_gv L_gv cap_gv) (ss Lx)) := oo_gv
 have o_gp11 : Hid (Own W11 lo_gp hi_gp 5 (.slice ao_gp L_gp cap_gp) (bs Bx)) := oo_gp
 have o_go11 : Hid (Om W11 lo_go hi_go (.slice ao_go L_go cap_go) (Q)) := oo_go
 clear oo_gv oo_gp oo_go p9 p5 pm
 have z11 := b11.size
 have B11 := Ke.b B10 b11
 have r_a11 := Ke.r r_a10 b11
 have r_aw11 := Ke.r r_aw10 b11
 have r_w011 := Ke.r r_w010 b11
 have r_x011 := Ke.r r_x010 b11
 have r_x211 := Ke.r r_x210 b11
 have o_wv11 := Ke.o o_wv10 b11
 have o_wp11 := Ke.o o_wp10 b11
 have o_wo11 := Ke.h (Om.later o_wo10.out b11 (by omega))
 have o_x11 := Ke.o o_x10 b11
 have o_xp11 := Ke.o o_xp10 b11
 have o_xx11 := Ke.o o_xx10 b11
 have c_a11 := Ke.c r_a11
 have c_aw11 := Ke.c r_aw11
 have c_w011 := Ke.c r_w011
 have c_x011 := Ke.c r_x011
 have c_x211 := Ke.c r_x211
 clear r_a10 c_a10 r_aw10 c_aw10 r_w010 c_w010 r_x010 c_x010 r_x210 c_x210 o_wv10 o_wp10 o_wo10 o_x10 o_xp10 o_xx10
 have f_x111 := Ke.h (Oq.later f_x110.out b11)
 clear f_x110
 have a_a11 := Ke.a r_a11
 have a_aw11 := Ke.a r_aw11
 have a_w011 := Ke.a r_w011
 have a_x011 := Ke.a r_x011
 have a_x211 := Ke.a r_x211
 obtain ⟨W12, HW12, b12, y12, hS12, r_g012⟩ := Ke.l1 W11 #[.int .i64 i2, .slice ao_gv L_gv cap_gv, .int .i64 Hx.n, .string Hx.r, .slice ao_gp L_gp cap_gp, .int .i64 Sx, .int .i64 Gx.n, .string Gx.r] 44
 have z12 := b12.size
 have B12 := Ke.b B11 b12
 have r_a12 := Ke.r r_a11 b12
 have r_aw12 := Ke.r r_aw11 b12
 have r_w012 := Ke.r r_w011 b12
 have r_x012 := Ke.r r_x011 b12
 have r_x212 := Ke.r r_x211 b12
 have o_wv12 := Ke.o o_wv11 b12
 have o_wp12 := Ke.o o_wp11 b12
 have o_wo12 := Ke.h (Om.later o_wo11.out b12 (by omega))
 have o_x12 := Ke.o o_x11 b12
 have o_xp12 := Ke.o o_xp11 b12
 have o_xx12 := Ke.o o_xx11 b12
 have o_gv12 := Ke.o o_gv11 b12
 have o_gp12 := Ke.o o_gp11 b12
 have o_go12 := Ke.h (Om.later o_go11.out b12 (by omega))
 have c_a12 := Ke.c r_a12
 have c_aw12 := Ke.c r_aw12
 have c_w012 := Ke.c r_w012
 have c_x012 := Ke.c r_x012
 have c_x212 := Ke.c r_x212
 have c_g012 := Ke.c r_g012
 clear r_a11 c_a11 r_aw11 c_aw11 r_w011 c_w011 r_x011 c_x011 r_x211 c_x211 o_wv11 o_wp11 o_wo11 o_x11 o_xp11 o_xx11 o_gv11 o_gp11 o_go11
 have f_x112 := Ke.h (Oq.later f_x111.out b12)
 clear f_x111
 go_wp2_with fail
 rw [HW12.out]
 clear a_a11 a_aw11 a_w011 a_x011 a_x211
 refine (eq_mirror W12 _ _ _ _ i2 Lx Hx Bx Sx Gx o_gv12.out.sl o_wv12.out.sl o_gp12.out.sl o_wp12.out.sl (by omega) (by omega)).mono ?_
 rintro e W13 ⟨rfl, b13⟩
 have z13 := b13.size
 have B13 := Ke.b B12 b13
 have r_a13 := Ke.r r_a12 b13
 have r_aw13 := Ke.r r_aw12 b13
 have r_w013 := Ke.r r_w012 b13
 have r_x013 := Ke.r r_x012 b13
 have r_x213 := Ke.r r_x212 b13
 have r_g013 := Ke.r r_g012 b13
 have o_wv13 := Ke.o o_wv12 b13
 have o_wp13 := Ke.o o_wp12 b13
 have o_wo13 := Ke.h (Om.later o_wo12.out b13 (by omega))
 have o_x13 := Ke.o o_x12 b13
 have o_xp13 := Ke.o o_xp12 b13
 have o_xx13 := Ke.o o_xx12 b13
 have o_gv13 := Ke.o o_gv12 b13
 have o_gp13 := Ke.o o_gp12 b13
 have o_go13 := Ke.h (Om.later o_go12.out b13 (by omega))
 have c_a13 := Ke.c r_a13
 have c_aw13 := Ke.c r_aw13
 have c_w013 := Ke.c r_w013
 have c_x013 := Ke.c r_x013
 have c_x213 := Ke.c r_x213
 have c_g013 := Ke.c r_g013
 clear r_a12 c_a12 r_aw12 c_aw12 r_w012 c_w012 r_x012 c_x012 r_x212 c_x212 r_g012 c_g012 o_wv12 o_wp12 o_wo12 o_x12 o_xp12 o_xx12 o_gv12 o_gp12 o_go12
 have f_x113 := Ke.h (Oq.later f_x112.out b13)
 clear f_x112
 go_wp2_with fail
 refine (eq_msgs W13 _ _ _ _ _ _ Q o_go13.out o_wo13.out (fun m hm => Nat.le_trans (HQL.out m hm) (by omega))).mono ?_
 rintro e W14 ⟨rfl, b14⟩
 have z14 := b14.size
 have B14 := Ke.b B13 b14
 have r_a14 := Ke.r r_a13 b14
 have r_aw14 := Ke.r r_aw13 b14
 have r_w014 := Ke.r r_w013 b14
 have r_x014 := Ke.r r_x013 b14
 have r_x214 := Ke.r r_x213 b14
 have r_g014 := Ke.r r_g013 b14
 have o_wv14 := Ke.o o_wv13 b14
 have o_wp14 := Ke.o o_wp13 b14
 have o_wo14 := Ke.h (Om.later o_wo13.out b14 (by omega))
 have o_x14 := Ke.o o_x13 b14
 have o_xp14 := Ke.o o_xp13 b14
 have o_xx14 := Ke.o o_xx13 b14
 have o_gv14 := Ke.o o_gv13 b14
 have o_gp14 := Ke.o o_gp13 b14
 have o_go14 := Ke.h (Om.later o_go13.out b14 (by omega))
 have c_a14 := Ke.c r_a14
 have c_aw14 := Ke.c r_aw14
 have c_w014 := Ke.c r_w014
 have c_x014 := Ke.c r_x014
 have c_x214 := Ke.c r_x214
 have c_g014 := Ke.c r_g014
 clear r_a13 c_a13 r_aw13 c_aw13 r_w013 c_w013 r_x013 c_x013 r_x213 c_x213 r_g013 c_g013 o_wv13 o_wp13 o_wo13 o_x13 o_xp13 o_xx13 o_gv13 o_gp13 o_go13
 have f_x114 := Ke.h (Oq.later f_x113.out b14)
 clear f_x113
 go_wp2_with fail
 refine wp_region_held_drew (S := fun w' => (∀ j, w'.cell? ⟨W6.heap.size, j, none⟩ = #[.int .i64 id, .slice ao_x L_x cap_x, .int .i64 h.n, .string h.r, .slice ao_xp L_xp cap_xp, .int .i64 s, .int .i64 g.n, .string g.r][j]?) ∧ (∀ j, w'.cell? ⟨w.heap.size, j, none⟩ = #[.int .i64 id, .slice ao0 l.length cap0, .int .i64 h.n, .string h.r, .slice ao1 b.length cap1, .int .i64 s, .int .i64 g.n, .string g.r][j]?)) (by kernel_rfl) ⟨c_x014, c_a14⟩ (fun hHeld => ?_)
 refine Ke.y 0 rfl (fun _ _ _ h => h) ?_
 try simp only [Act.put, pu1, pu2, pu3, pu4, pu5, pu6]
 refine Ke.y 1 rfl (fun _ _ _ h => h) ?_
 try simp only [Act.put, pu1, pu2, pu3, pu4, pu5, pu6]
 refine Ke.z 2 rfl (fun K hK => ?_)
 go_simp
 refine (to_mirror W14.drew _ _ id l h b s g (Sl.later (w := W14) (HS.out.later B14.out) (Below.drew (Below.refl _ _))) (Sl.later (w := W14) (HSB.out.later B14.out) (Below.drew (Below.refl _ _))) (by omega) (by omega)).mono ?_
 rintro e W15 ⟨v_u, v_up, rfl, o_u15, o_up15, b15⟩
 have b15 : Below W14.heap.size W14 W15 := (Below.drew (Below.refl _ _)).trans b15
 have o_u15 : Own W15 W14.heap.size W15.heap.size 9 _ _ := o_u15
 have o_up15 : Own W15 W14.heap.size W15.heap.size 5 _ _ := o_up15
 refine hK.out _ _ ⟨(Ke.k (W := W14) hHeld.1 b15), (Ke.k (W := W14) hHeld.2 b15)⟩ (fun hHeld => ?_)
 clear hK K
 try simp only [Act.put, pu1, pu2, pu3, pu4, pu5, pu6]
 obtain ⟨lo_u, hi_u, lo_up, hi_up, d1_u, d2_u, d3_u, d4_u, d5_u, d6_u, d7_u, oo_u, oo_up⟩ := Sr.pairN o_u15 o_up15 b15.size
 clear o_u15 o_up15
 obtain ⟨ao_u, L_u, cap_u, rfl, _, _⟩ := oo_u.form
 obtain ⟨ao_up, L_up, cap_up, rfl, _, _⟩ := oo_up.form
 have o_u15 : Hid (Own W15 lo_u hi_u 9 (.slice ao_u L_u cap_u) (ss l)) := oo_u
 have o_up15 : Hid (Own W15 lo_up hi_up 5 (.slice ao_up L_up cap_up) (bs b)) := oo_up
 clear oo_u oo_up
 have z15 := b15.size
 have B15 := Ke.b B14 b15
 have r_a15 := Ke.r r_a14 b15
 have r_aw15 := Ke.r r_aw14 b15
 have r_w015 := Ke.r r_w014 b15
 have r_x015 := Ke.r r_x014 b15
 have r_x215 := Ke.r r_x214 b15
 have r_g015 := Ke.r r_g014 b15
 have o_wv15 := Ke.o o_wv14 b15
 have o_wp15 := Ke.o o_wp14 b15
 have o_wo15 := Ke.h (Om.later o_wo14.out b15 (by omega))
 have o_x15 := Ke.o o_x14 b15
 have o_xp15 := Ke.o o_xp14 b15
 have o_xx15 := Ke.o o_xx14 b15
 have o_gv15 := Ke.o o_gv14 b15
 have o_gp15 := Ke.o o_gp14 b15
 have o_go15 := Ke.h (Om.later o_go14.out b15 (by omega))
 have c_a15 := Ke.c r_a15
 have c_aw15 := Ke.c r_aw15
 have c_w015 := Ke.c r_w015
 have c_x015 := Ke.c r_x015
 have c_x215 := Ke.c r_x215
 have c_g015 := Ke.c r_g015
 clear r_a14 c_a14 r_aw14 c_aw14 r_w014 c_w014 r_x014 c_x014 r_x214 c_x214 r_g014 c_g014 o_wv14 o_wp14 o_wo14 o_x14 o_xp14 o_xx14 o_gv14 o_gp14 o_go14
 have f_x115 := Ke.h (Oq.later f_x114.out b15)
 clear f_x114
 refine Ke.z 3 rfl (fun K hK => ?_)
 go_simp
 refine (eq_mirror W15 _ _ _ _ id l h b s g o_x15.out.sl o_u15.out.sl o_xp15.out.sl o_up15.out.sl (by omega) (by omega)).mono ?_
 rintro e W16 ⟨rfl, b16⟩
 refine hK.out _ _ ⟨(Ke.k (W := W15) hHeld.1 b16), (Ke.k (W := W15) hHeld.2 b16)⟩ (fun hHeld => ?_)
 clear hK K
 try simp only [Act.put, pu1, pu2, pu3, pu4, pu5, pu6]
 have z16 := b16.size
 have B16 := Ke.b B15 b16
 have r_a16 := Ke.r r_a15 b16
 have r_aw16 := Ke.r r_aw15 b16
 have r_w016 := Ke.r r_w015 b16
 have r_x016 := Ke.r r_x015 b16
 have r_x216 := Ke.r r_x215 b16
 have r_g016 := Ke.r r_g015 b16
 have o_wv16 := Ke.o o_wv15 b16
 have o_wp16 := Ke.o o_wp15 b16
 have o_wo16 := Ke.h (Om.later o_wo15.out b16 (by omega))
 have o_x16 := Ke.o o_x15 b16
 have o_xp16 := Ke.o o_xp15 b16
 have o_xx16 := Ke.o o_xx15 b16
 have o_gv16 := Ke.o o_gv15 b16
 have o_gp16 := Ke.o o_gp15 b16
 have o_go16 := Ke.h (Om.later o_go15.out b16 (by omega))
 have o_u16 := Ke.o o_u15 b16
 have o_up16 := Ke.o o_up15 b16
 have c_a16 := Ke.c r_a16
 have c_aw16 := Ke.c r_aw16
 have c_w016 := Ke.c r_w016
 have c_x016 := Ke.c r_x016
 have c_x216 := Ke.c r_x216
 have c_g016 := Ke.c r_g016
 clear r_a15 c_a15 r_aw15 c_aw15 r_w015 c_w015 r_x015 c_x015 r_x215 c_x215 r_g015 c_g015 o_wv15 o_wp15 o_wo15 o_x15 o_xp15 o_xx15 o_gv15 o_gp15 o_go15 o_u15 o_up15
 have f_x116 := Ke.h (Oq.later f_x115.out b16)
 clear f_x115
 refine Ke.y 4 rfl (fun _ _ _ h => h) ?_
 try simp only [Act.put, pu1, pu2, pu3, pu4, pu5, pu6]
 refine wpAnyH_done (by kernel_rfl) ?_ _
 clear hHeld
 clear o_u16
 clear o_up16
 go_wp2_with fail
 refine (to_heads W16 _ t (HT.out.later B16.out) (by omega)).mono ?_
 rintro e W17 ⟨v_u1, rfl, o_u117, b17⟩
 have z17 := b17.size
 have B17 := Ke.b B16 b17
 have r_a17 := Ke.r r_a16 b17
 have r_aw17 := Ke.r r_aw16 b17
 have r_w017 := Ke.r r_w016 b17
 have r_x017 := Ke.r r_x016 b17
 have r_x217 := Ke.r r_x216 b17
 have r_g017 := Ke.r r_g016 b17
 have o_wv17 := Ke.o o_wv16 b17
 have o_wp17 := Ke.o o_wp16 b17
 have o_wo17 := Ke.h (Om.later o_wo16.out b17 (by omega))
 have o_x17 := Ke.o o_x16 b17
 have o_xp17 := Ke.o o_xp16 b17
 have o_xx17 := Ke.o o_xx16 b17
 have o_gv17 := Ke.o o_gv16 b17
 have o_gp17 := Ke.o o_gp16 b17
 have o_go17 := Ke.h (Om.later o_go16.out b17 (by omega))
 have c_a17 := Ke.c r_a17
 have c_aw17 := Ke.c r_aw17
 have c_w017 := Ke.c r_w017
 have c_x017 := Ke.c r_x017
 have c_x217 := Ke.c r_x217
 have c_g017 := Ke.c r_g017
 clear r_a16 c_a16 r_aw16 c_aw16 r_w016 c_w016 r_x016 c_x016 r_x216 c_x216 r_g016 c_g016 o_wv16 o_wp16 o_wo16 o_x16 o_xp16 o_xx16 o_gv16 o_gp16 o_go16
 have f_x117 := Ke.h (Oq.later f_x116.out b17)
 clear f_x116
 have f_u117 : Hid (Oq W17 W16.heap.size W17.heap.size v_u1 t) := ⟨o_u117, Nat.le_refl _⟩
 clear o_u117
 go_wp2_with fail
 refine (eq_heads W17 v_x1 v_u1 t f_x117.out.1.sh f_u117.out.1.sh (by omega)).mono ?_
 rintro e W18 ⟨rfl, b18⟩
 have z18 := b18.size
 have B18 := Ke.b B17 b18
 have r_a18 := Ke.r r_a17 b18
 have r_aw18 := Ke.r r_aw17 b18
 have r_w018 := Ke.r r_w017 b18
 have r_x018 := Ke.r r_x017 b18
 have r_x218 := Ke.r r_x217 b18
 have r_g018 := Ke.r r_g017 b18
 have o_wv18 := Ke.o o_wv17 b18
 have o_wp18 := Ke.o o_wp17 b18
 have o_wo18 := Ke.h (Om.later o_wo17.out b18 (by omega))
 have o_x18 := Ke.o o_x17 b18
 have o_xp18 := Ke.o o_xp17 b18
 have o_xx18 := Ke.o o_xx17 b18
 have o_gv18 := Ke.o o_gv17 b18
 have o_gp18 := Ke.o o_gp17 b18
 have o_go18 := Ke.h (Om.later o_go17.out b18 (by omega))
 have c_a18 := Ke.c r_a18
 have c_aw18 := Ke.c r_aw18
 have c_w018 := Ke.c r_w018
 have c_x018 := Ke.c r_x018
 have c_x218 := Ke.c r_x218
 have c_g018 := Ke.c r_g018
 clear r_a17 c_a17 r_aw17 c_aw17 r_w017 c_w017 r_x017 c_x017 r_x217 c_x217 r_g017 c_g017 o_wv17 o_wp17 o_wo17 o_x17 o_xp17 o_xx17 o_gv17 o_gp17 o_go17
 have f_x118 := Ke.h (Oq.later f_x117.out b18)
 have f_u118 := Ke.h (Oq.later f_u117.out b18)
 clear f_x117 f_u117
 clear f_u118
 go_wp2_with fail
 refine wp_region_held_drew (S := fun w' => (∀ j, w'.cell? ⟨W9.heap.size, j, none⟩ = #[.int .i64 k, .int .i64 f, .int .i64 tt, .int .i64 hq.n, .string hq.r, .int .i64 n, .slice ao_xx L_xx cap_xx][j]?) ∧ (∀ j, w'.cell? ⟨w.heap.size + 1, j, none⟩ = #[.int .i64 k, .int .i64 f, .int .i64 tt, .int .i64 hq.n, .string hq.r, .int .i64 n, .slice ao3 x.length cap3][j]?)) (by kernel_rfl) ⟨c_x218, c_aw18⟩ (fun hHeld => ?_)
 refine Ke.y 0 rfl (fun _ _ _ h => h) ?_
 try simp only [Act.put, pu1, pu2, pu3, pu4, pu5, pu6]
 refine Ke.y 1 rfl (fun _ _ _ h => h) ?_
 try simp only [Act.put, pu1, pu2, pu3, pu4, pu5, pu6]
 refine Ke.z 2 rfl (fun K hK => ?_)
 go_simp
 refine (to_msg W18.drew _ ⟨k, f, tt, hq, n, x⟩ (Sl.later (w := W18) (HX.out.later B18.out) (Below.drew (Below.refl _ _))) (by simp only; omega)).mono ?_
 rintro e W19 ⟨v_u, rfl, o_u19, b19⟩
 have b19 : Below W18.heap.size W18 W19 := (Below.drew (Below.refl _ _)).trans b19
 refine hK.out _ _ ⟨(Ke.k (W := W18) hHeld.1 b19), (Ke.k (W := W18) hHeld.2 b19)⟩ (fun hHeld => ?_)
 clear hK K
 try simp only [Act.put, pu1, pu2, pu3, pu4, pu5, pu6]
 have o_u19 : Own W19 W18.heap.size W19.heap.size 9 _ _ := o_u19
 obtain ⟨ao_u, L_u, cap_u, rfl, hL_u, hM_u⟩ := o_u19.form
 have o_u19 : Hid (Own W19 W18.heap.size W19.heap.size 9 (.slice ao_u L_u cap_u) (ss x)) := o_u19
 clear hL_u hM_u
 have z19 := b19.size
 have B19 := Ke.b B18 b19
 have r_a19 := Ke.r r_a18 b19
 have r_aw19 := Ke.r r_aw18 b19
 have r_w019 := Ke.r r_w018 b19
 have r_x019 := Ke.r r_x018 b19
 have r_x219 := Ke.r r_x218 b19
 have r_g019 := Ke.r r_g018 b19
 have o_wv19 := Ke.o o_wv18 b19
 have o_wp19 := Ke.o o_wp18 b19
 have o_wo19 := Ke.h (Om.later o_wo18.out b19 (by omega))
 have o_x19 := Ke.o o_x18 b19
 have o_xp19 := Ke.o o_xp18 b19
 have o_xx19 := Ke.o o_xx18 b19
 have o_gv19 := Ke.o o_gv18 b19
 have o_gp19 := Ke.o o_gp18 b19
 have o_go19 := Ke.h (Om.later o_go18.out b19 (by omega))
 have c_a19 := Ke.c r_a19
 have c_aw19 := Ke.c r_aw19
 have c_w019 := Ke.c r_w019
 have c_x019 := Ke.c r_x019
 have c_x219 := Ke.c r_x219
 have c_g019 := Ke.c r_g019
 clear r_a18 c_a18 r_aw18 c_aw18 r_w018 c_w018 r_x018 c_x018 r_x218 c_x218 r_g018 c_g018 o_wv18 o_wp18 o_wo18 o_x18 o_xp18 o_xx18 o_gv18 o_gp18 o_go18
 have f_x119 := Ke.h (Oq.later f_x118.out b19)
 clear f_x118
 refine Ke.z 3 rfl (fun K hK => ?_)
 go_simp
 refine (eq_msg W19 _ _ ⟨k, f, tt, hq, n, x⟩ o_xx19.out.sl o_u19.out.sl (by simp only; omega)).mono ?_
 rintro e W20 ⟨rfl, b20⟩
 refine hK.out _ _ ⟨(Ke.k (W := W19) hHeld.1 b20), (Ke.k (W := W19) hHeld.2 b20)⟩ (fun hHeld => ?_)
 clear hK K
 try simp only [Act.put, pu1, pu2, pu3, pu4, pu5, pu6]
 have z20 := b20.size
 have B20 := Ke.b B19 b20
 have r_a20 := Ke.r r_a19 b20
 have r_aw20 := Ke.r r_aw19 b20
 have r_w020 := Ke.r r_w019 b20
 have r_x020 := Ke.r r_x019 b20
 have r_x220 := Ke.r r_x219 b20
 have r_g020 := Ke.r r_g019 b20
 have o_wv20 := Ke.o o_wv19 b20
 have o_wp20 := Ke.o o_wp19 b20
 have o_wo20 := Ke.h (Om.later o_wo19.out b20 (by omega))
 have o_x20 := Ke.o o_x19 b20
 have o_xp20 := Ke.o o_xp19 b20
 have o_xx20 := Ke.o o_xx19 b20
 have o_gv20 := Ke.o o_gv19 b20
 have o_gp20 := Ke.o o_gp19 b20
 have o_go20 := Ke.h (Om.later o_go19.out b20 (by omega))
 have o_u20 := Ke.o o_u19 b20
 have c_a20 := Ke.c r_a20
 have c_aw20 := Ke.c r_aw20
 have c_w020 := Ke.c r_w020
 have c_x020 := Ke.c r_x020
 have c_x220 := Ke.c r_x220
 have c_g020 := Ke.c r_g020
 clear r_a19 c_a19 r_aw19 c_aw19 r_w019 c_w019 r_x019 c_x019 r_x219 c_x219 r_g019 c_g019 o_wv19 o_wp19 o_wo19 o_x19 o_xp19 o_xx19 o_gv19 o_gp19 o_go19 o_u19
 have f_x120 := Ke.h (Oq.later f_x119.out b20)
 clear f_x119
 refine Ke.y 4 rfl (fun _ _ _ h => h) ?_
 try simp only [Act.put, pu1, pu2, pu3, pu4, pu5, pu6]
 refine wpAnyH_done (by kernel_rfl) ?_ _
 clear hHeld
 clear o_u20
 obtain ⟨K1, HK1⟩ : ∃ K1 : Nat, Hid (1 + l.length + b.length = K1) := ⟨_, rfl⟩
 have hK1 : 1 ≤ K1 ∧ K1 ≤ 4000000 := by have := HK1.out; omega
 have qm := mark_mirror W20 id h g _ _ s _ _ _ _ l b 1 o_x20.out o_xp20.out (by omega) (by omega) (by omega) (by omega) (by omega) (by omega) (by omega)
 rw [HK1.out] at qm
 go_wp2_with fail
 refine (qm).mono ?_
 rintro e W21 ⟨rfl, o_x21, o_xp21, p21⟩
 have o_x21 : Hid (Own W21 (lo_x) (hi_x) 9 (.slice ao_x L_x cap_x) (ss (Strs.mts 1 l.length))) := o_x21
 have o_xp21 : Hid (Own W21 (lo_xp) (hi_xp) 5 (.slice ao_xp L_xp cap_xp) (bs (marks (1 + l.length) b.length))) := o_xp21
 have z21 : W20.heap.size ≤ W21.heap.size := p21.size
 have B21 : Hid (Below w.heap.size w W21) := B20.out.trans (p21.below (by have := B20.out.size; omega) (by have := B20.out.size; omega) B20.out.size)
 have r_a21 : Hid (W21.heap[w.heap.size]? = some (.cells #[.int .i64 id, .slice ao0 l.length cap0, .int .i64 h.n, .string h.r, .slice ao1 b.length cap1, .int .i64 s, .int .i64 g.n, .string g.r] 31 (0, 0))) := (p21.block (w.heap.size) (by omega) (by omega) (by omega)).trans r_a20.out
 have r_aw21 : Hid (W21.heap[w.heap.size + 1]? = some (.cells #[.int .i64 k, .int .i64 f, .int .i64 tt, .int .i64 hq.n, .string hq.r, .int .i64 n, .slice ao3 x.length cap3] 34 (0, 0))) := (p21.block (w.heap.size + 1) (by omega) (by omega) (by omega)).trans r_aw20.out
 have r_w021 : Hid (W21.heap[g_w0]? = some (.cells #[.int .i64 i2, .slice ao_wv L_wv cap_wv, .int .i64 Hx.n, .string Hx.r, .slice ao_wp L_wp cap_wp, .int .i64 Sx, .int .i64 Gx.n, .string Gx.r] 44 (0, 0))) := (p21.block (g_w0) (by omega) (by omega) (by omega)).trans r_w020.out
 have r_x021 : Hid (W21.heap[W6.heap.size]? = some (.cells #[.int .i64 id, .slice ao_x L_x cap_x, .int .i64 h.n, .string h.r, .slice ao_xp L_xp cap_xp, .int .i64 s, .int .i64 g.n, .string g.r] 44 (0, 0))) := (p21.block (W6.heap.size) (by omega) (by omega) (by omega)).trans r_x020.out
 have r_x221 : Hid (W21.heap[W9.heap.size]? = some (.cells #[.int .i64 k, .int .i64 f, .int .i64 tt, .int .i64 hq.n, .string hq.r, .int .i64 n, .slice ao_xx L_xx cap_xx] 52 (0, 0))) := (p21.block (W9.heap.size) (by omega) (by omega) (by omega)).trans r_x220.out
 have r_g021 : Hid (W21.heap[W11.heap.size]? = some (.cells #[.int .i64 i2, .slice ao_gv L_gv cap_gv, .int .i64 Hx.n, .string Hx.r, .slice ao_gp L_gp cap_gp, .int .i64 Sx, .int .i64 Gx.n, .string Gx.r] 44 (0, 0))) := (p21.block (W11.heap.size) (by omega) (by omega) (by omega)).trans r_g020.out
 have o_wv21 : Hid (Own W21 (lo_wv) (hi_wv) 9 (.slice ao_wv L_wv cap_wv) (ss Lx)) := Sr.Own.apart2 o_wv20.out p21 (by omega) (by omega) (by omega)
 have o_wp21 : Hid (Own W21 (lo_wp) (hi_wp) 5 (.slice ao_wp L_wp cap_wp) (bs Bx)) := Sr.Own.apart2 o_wp20.out p21 (by omega) (by omega) (by omega)
 have o_wo21 : Hid (Om W21 (lo_wo) (hi_wo) (.slice ao_wo L_wo cap_wo) (Q)) := Om.apart2 o_wo20.out p21 (by omega) (by omega) (by omega)
 have o_xx21 : Hid (Own W21 (W8.heap.size) (W9.heap.size) 9 (.slice ao_xx L_xx cap_xx) (ss x)) := Sr.Own.apart2 o_xx20.out p21 (by omega) (by omega) (by omega)
 have o_gv21 : Hid (Own W21 (lo_gv) (hi_gv) 9 (.slice ao_gv L_gv cap_gv) (ss Lx)) := Sr.Own.apart2 o_gv20.out p21 (by omega) (by omega) (by omega)
 have o_gp21 : Hid (Own W21 (lo_gp) (hi_gp) 5 (.slice ao_gp L_gp cap_gp) (bs Bx)) := Sr.Own.apart2 o_gp20.out p21 (by omega) (by omega) (by omega)
 have o_go21 : Hid (Om W21 (lo_go) (hi_go) (.slice ao_go L_go cap_go) (Q)) := Om.apart2 o_go20.out p21 (by omega) (by omega) (by omega)
 have f_x121 : Hid (Oq W21 W7.heap.size W8.heap.size v_x1 t) := Oq.apart2 f_x120.out p21 (by omega) (by omega)
 have c_a21 := Ke.c r_a21
 have c_aw21 := Ke.c r_aw21
 have c_w021 := Ke.c r_w021
 have c_x021 := Ke.c r_x021
 have c_x221 := Ke.c r_x221
 have c_g021 := Ke.c r_g021
 clear r_a20 c_a20 r_aw20 c_aw20 r_w020 c_w020 r_x020 c_x020 r_x220 c_x220 r_g020 c_g020 o_wv20 o_wp20 o_wo20 o_x20 o_xp20 o_xx20 o_gv20 o_gp20 o_go20
 clear f_x120
 clear qm
 clear o_x21
 clear o_xp21
 clear r_x021 c_x021
 obtain ⟨K2, HK2⟩ : ∃ K2 : Nat, Hid (K1 + 2 * t.length = K2) := ⟨_, rfl⟩
 have hK2 : 1 ≤ K2 ∧ K2 ≤ 10000000 := by have := HK2.out; omega
 have qm := mark_heads W21 v_x1 (W7.heap.size) (W8.heap.size) t K1 f_x121.out.1 (by omega) (by omega) (by omega) (by omega)
 rw [HK2.out] at qm
 go_wp2_with fail
 refine (qm).mono ?_
 rintro e W22 ⟨rfl, m22, p22⟩
 have z22 : W21.heap.size ≤ W22.heap.size := p22.size
 have B22 : Hid (Below w.heap.size w W22) := B21.out.trans (p22.below (by have := B21.out.size; omega) B21.out.size)
 have r_a22 : Hid (W22.heap[w.heap.size]? = some (.cells #[.int .i64 id, .slice ao0 l.length cap0, .int .i64 h.n, .string h.r, .slice ao1 b.length cap1, .int .i64 s, .int .i64 g.n, .string g.r] 31 (0, 0))) := (p22.block (w.heap.size) (by omega) (by omega)).trans r_a21.out
 have r_aw22 : Hid (W22.heap[w.heap.size + 1]? = some (.cells #[.int .i64 k, .int .i64 f, .int .i64 tt, .int .i64 hq.n, .string hq.r, .int .i64 n, .slice ao3 x.length cap3] 34 (0, 0))) := (p22.block (w.heap.size + 1) (by omega) (by omega)).trans r_aw21.out
 have r_w022 : Hid (W22.heap[g_w0]? = some (.cells #[.int .i64 i2, .slice ao_wv L_wv cap_wv, .int .i64 Hx.n, .string Hx.r, .slice ao_wp L_wp cap_wp, .int .i64 Sx, .int .i64 Gx.n, .string Gx.r] 44 (0, 0))) := (p22.block (g_w0) (by omega) (by omega)).trans r_w021.out
 have r_x222 : Hid (W22.heap[W9.heap.size]? = some (.cells #[.int .i64 k, .int .i64 f, .int .i64 tt, .int .i64 hq.n, .string hq.r, .int .i64 n, .slice ao_xx L_xx cap_xx] 52 (0, 0))) := (p22.block (W9.heap.size) (by omega) (by omega)).trans r_x221.out
 have r_g022 : Hid (W22.heap[W11.heap.size]? = some (.cells #[.int .i64 i2, .slice ao_gv L_gv cap_gv, .int .i64 Hx.n, .string Hx.r, .slice ao_gp L_gp cap_gp, .int .i64 Sx, .int .i64 Gx.n, .string Gx.r] 44 (0, 0))) := (p22.block (W11.heap.size) (by omega) (by omega)).trans r_g021.out
 have o_wv22 : Hid (Own W22 (lo_wv) (hi_wv) 9 (.slice ao_wv L_wv cap_wv) (ss Lx)) := Own.apart o_wv21.out p22 (by omega) (by omega)
 have o_wp22 : Hid (Own W22 (lo_wp) (hi_wp) 5 (.slice ao_wp L_wp cap_wp) (bs Bx)) := Own.apart o_wp21.out p22 (by omega) (by omega)
 have o_wo22 : Hid (Om W22 (lo_wo) (hi_wo) (.slice ao_wo L_wo cap_wo) (Q)) := Om.apart o_wo21.out p22 (by omega) (by omega)
 have o_xx22 : Hid (Own W22 (W8.heap.size) (W9.heap.size) 9 (.slice ao_xx L_xx cap_xx) (ss x)) := Own.apart o_xx21.out p22 (by omega) (by omega)
 have o_gv22 : Hid (Own W22 (lo_gv) (hi_gv) 9 (.slice ao_gv L_gv cap_gv) (ss Lx)) := Own.apart o_gv21.out p22 (by omega) (by omega)
 have o_gp22 : Hid (Own W22 (lo_gp) (hi_gp) 5 (.slice ao_gp L_gp cap_gp) (bs Bx)) := Own.apart o_gp21.out p22 (by omega) (by omega)
 have o_go22 : Hid (Om W22 (lo_go) (hi_go) (.slice ao_go L_go cap_go) (Q)) := Om.apart o_go21.out p22 (by omega) (by omega)
 have c_a22 := Ke.c r_a22
 have c_aw22 := Ke.c r_aw22
 have c_w022 := Ke.c r_w022
 have c_x222 := Ke.c r_x222
 have c_g022 := Ke.c r_g022
 clear r_a21 c_a21 r_aw21 c_aw21 r_w021 c_w021 r_x221 c_x221 r_g021 c_g021 o_wv21 o_wp21 o_wo21 o_xx21 o_gv21 o_gp21 o_go21
 clear f_x121 m22
 clear qm
 go_wp2_with fail
 refine (mark_msg W22 ⟨k, f, tt, hq, n, x⟩ _ (W8.heap.size) (W9.heap.size) x K2 o_xx22.out (by omega) (by omega) (by omega) (by omega)).mono ?_
 rintro e W23 ⟨rfl, o_xx23, p23⟩
 have o_xx23 : Hid (Own W23 (W8.heap.size) (W9.heap.size) 9 (.slice ao_xx L_xx cap_xx) (ss (Strs.mts K2 x.length))) := o_xx23
 have z23 : W22.heap.size ≤ W23.heap.size := p23.size
 have B23 : Hid (Below w.heap.size w W23) := B22.out.trans (p23.below (by have := B22.out.size; omega) B22.out.size)
 have r_a23 : Hid (W23.heap[w.heap.size]? = some (.cells #[.int .i64 id, .slice ao0 l.length cap0, .int .i64 h.n, .string h.r, .slice ao1 b.length cap1, .int .i64 s, .int .i64 g.n, .string g.r] 31 (0, 0))) := (p23.block (w.heap.size) (by omega) (by omega)).trans r_a22.out
 have r_aw23 : Hid (W23.heap[w.heap.size + 1]? = some (.cells #[.int .i64 k, .int .i64 f, .int .i64 tt, .int .i64 hq.n, .string hq.r, .int .i64 n, .slice ao3 x.length cap3] 34 (0, 0))) := (p23.block (w.heap.size + 1) (by omega) (by omega)).trans r_aw22.out
 have r_w023 : Hid (W23.heap[g_w0]? = some (.cells #[.int .i64 i2, .slice ao_wv L_wv cap_wv, .int .i64 Hx.n, .string Hx.r, .slice ao_wp L_wp cap_wp, .int .i64 Sx, .int .i64 Gx.n, .string Gx.r] 44 (0, 0))) := (p23.block (g_w0) (by omega) (by omega)).trans r_w022.out
 have r_x223 : Hid (W23.heap[W9.heap.size]? = some (.cells #[.int .i64 k, .int .i64 f, .int .i64 tt, .int .i64 hq.n, .string hq.r, .int .i64 n, .slice ao_xx L_xx cap_xx] 52 (0, 0))) := (p23.block (W9.heap.size) (by omega) (by omega)).trans r_x222.out
 have r_g023 : Hid (W23.heap[W11.heap.size]? = some (.cells #[.int .i64 i2, .slice ao_gv L_gv cap_gv, .int .i64 Hx.n, .string Hx.r, .slice ao_gp L_gp cap_gp, .int .i64 Sx, .int .i64 Gx.n, .string Gx.r] 44 (0, 0))) := (p23.block (W11.heap.size) (by omega) (by omega)).trans r_g022.out
 have o_wv23 : Hid (Own W23 (lo_wv) (hi_wv) 9 (.slice ao_wv L_wv cap_wv) (ss Lx)) := Own.apart o_wv22.out p23 (by omega) (by omega)
 have o_wp23 : Hid (Own W23 (lo_wp) (hi_wp) 5 (.slice ao_wp L_wp cap_wp) (bs Bx)) := Own.apart o_wp22.out p23 (by omega) (by omega)
 have o_wo23 : Hid (Om W23 (lo_wo) (hi_wo) (.slice ao_wo L_wo cap_wo) (Q)) := Om.apart o_wo22.out p23 (by omega) (by omega)
 have o_gv23 : Hid (Own W23 (lo_gv) (hi_gv) 9 (.slice ao_gv L_gv cap_gv) (ss Lx)) := Own.apart o_gv22.out p23 (by omega) (by omega)
 have o_gp23 : Hid (Own W23 (lo_gp) (hi_gp) 5 (.slice ao_gp L_gp cap_gp) (bs Bx)) := Own.apart o_gp22.out p23 (by omega) (by omega)
 have o_go23 : Hid (Om W23 (lo_go) (hi_go) (.slice ao_go L_go cap_go) (Q)) := Om.apart o_go22.out p23 (by omega) (by omega)
 have c_a23 := Ke.c r_a23
 have c_aw23 := Ke.c r_aw23
 have c_w023 := Ke.c r_w023
 have c_x223 := Ke.c r_x223
 have c_g023 := Ke.c r_g023
 clear r_a22 c_a22 r_aw22 c_aw22 r_w022 c_w022 r_x222 c_x222 r_g022 c_g022 o_wv22 o_wp22 o_wo22 o_xx22 o_gv22 o_gp22 o_go22
 clear o_xx23
 clear r_x223 c_x223
 go_wp2_with fail
 refine (eq_mirror W23 _ _ _ _ i2 Lx Hx Bx Sx Gx o_gv23.out.sl o_wv23.out.sl o_gp23.out.sl o_wp23.out.sl (by omega) (by omega)).mono ?_
 rintro e W24 ⟨rfl, b24⟩
 have z24 := b24.size
 have B24 := Ke.b B23 b24
 have r_a24 := Ke.r r_a23 b24
 have r_aw24 := Ke.r r_aw23 b24
 have r_w024 := Ke.r r_w023 b24
 have r_g024 := Ke.r r_g023 b24
 have o_wv24 := Ke.o o_wv23 b24
 have o_wp24 := Ke.o o_wp23 b24
 have o_wo24 := Ke.h (Om.later o_wo23.out b24 (by omega))
 have o_gv24 := Ke.o o_gv23 b24
 have o_gp24 := Ke.o o_gp23 b24
 have o_go24 := Ke.h (Om.later o_go23.out b24 (by omega))
 have c_a24 := Ke.c r_a24
 have c_aw24 := Ke.c r_aw24
 have c_w024 := Ke.c r_w024
 have c_g024 := Ke.c r_g024
 clear r_a23 c_a23 r_aw23 c_aw23 r_w023 c_w023 r_g023 c_g023 o_wv23 o_wp23 o_wo23 o_gv23 o_gp23 o_go23
 go_wp2_with fail
 refine (eq_msgs W24 _ _ _ _ _ _ Q o_go24.out o_wo24.out (fun m hm => Nat.le_trans (HQL.out m hm) (by omega))).mono ?_
 rintro e W25 ⟨rfl, b25⟩
 have z25 := b25.size
 have B25 := Ke.b B24 b25
 have r_a25 := Ke.r r_a24 b25
 have r_aw25 := Ke.r r_aw24 b25
 have r_w025 := Ke.r r_w024 b25
 have r_g025 := Ke.r r_g024 b25
 have o_wv25 := Ke.o o_wv24 b25
 have o_wp25 := Ke.o o_wp24 b25
 have o_wo25 := Ke.h (Om.later o_wo24.out b25 (by omega))
 have o_gv25 := Ke.o o_gv24 b25
 have o_gp25 := Ke.o o_gp24 b25
 have o_go25 := Ke.h (Om.later o_go24.out b25 (by omega))
 have c_a25 := Ke.c r_a25
 have c_aw25 := Ke.c r_aw25
 have c_w025 := Ke.c r_w025
 have c_g025 := Ke.c r_g025
 clear r_a24 c_a24 r_aw24 c_aw24 r_w024 c_w024 r_g024 c_g024 o_wv24 o_wp24 o_wo24 o_gv24 o_gp24 o_go24
 obtain ⟨K3, HK3⟩ : ∃ K3 : Nat, Hid (1 + Lx.length + Bx.length = K3) := ⟨_, rfl⟩
 have hK3 : 1 ≤ K3 ∧ K3 ≤ 10000000 := by have := HK3.out; omega
 have qm := mark_mirror W25 i2 Hx Gx _ _ Sx _ _ _ _ Lx Bx 1 o_gv25.out o_gp25.out (by omega) (by omega) (by omega) (by omega) (by omega) (by omega) (by omega)
 rw [HK3.out] at qm
 go_wp2_with fail
 refine (qm).mono ?_
 rintro e W26 ⟨rfl, o_gv26, o_gp26, p26⟩
 have o_gv26 : Hid (Own W26 (lo_gv) (hi_gv) 9 (.slice ao_gv L_gv cap_gv) (ss (Strs.mts 1 Lx.length))) := o_gv26
 have o_gp26 : Hid (Own W26 (lo_gp) (hi_gp) 5 (.slice ao_gp L_gp cap_gp) (bs (marks (1 + Lx.length) Bx.length))) := o_gp26
 have z26 : W25.heap.size ≤ W26.heap.size := p26.size
 have B26 : Hid (Below w.heap.size w W26) := B25.out.trans (p26.below (by have := B25.out.size; omega) (by have := B25.out.size; omega) B25.out.size)
 have r_a26 : Hid (W26.heap[w.heap.size]? = some (.cells #[.int .i64 id, .slice ao0 l.length cap0, .int .i64 h.n, .string h.r, .slice ao1 b.length cap1, .int .i64 s, .int .i64 g.n, .string g.r] 31 (0, 0))) := (p26.block (w.heap.size) (by omega) (by omega) (by omega)).trans r_a25.out
 have r_aw26 : Hid (W26.heap[w.heap.size + 1]? = some (.cells #[.int .i64 k, .int .i64 f, .int .i64 tt, .int .i64 hq.n, .string hq.r, .int .i64 n, .slice ao3 x.length cap3] 34 (0, 0))) := (p26.block (w.heap.size + 1) (by omega) (by omega) (by omega)).trans r_aw25.out
 have r_w026 : Hid (W26.heap[g_w0]? = some (.cells #[.int .i64 i2, .slice ao_wv L_wv cap_wv, .int .i64 Hx.n, .string Hx.r, .slice ao_wp L_wp cap_wp, .int .i64 Sx, .int .i64 Gx.n, .string Gx.r] 44 (0, 0))) := (p26.block (g_w0) (by omega) (by omega) (by omega)).trans r_w025.out
 have r_g026 : Hid (W26.heap[W11.heap.size]? = some (.cells #[.int .i64 i2, .slice ao_gv L_gv cap_gv, .int .i64 Hx.n, .string Hx.r, .slice ao_gp L_gp cap_gp, .int .i64 Sx, .int .i64 Gx.n, .string Gx.r] 44 (0, 0))) := (p26.block (W11.heap.size) (by omega) (by omega) (by omega)).trans r_g025.out
 have o_wv26 : Hid (Own W26 (lo_wv) (hi_wv) 9 (.slice ao_wv L_wv cap_wv) (ss Lx)) := Sr.Own.apart2 o_wv25.out p26 (by omega) (by omega) (by omega)
 have o_wp26 : Hid (Own W26 (lo_wp) (hi_wp) 5 (.slice ao_wp L_wp cap_wp) (bs Bx)) := Sr.Own.apart2 o_wp25.out p26 (by omega) (by omega) (by omega)
 have o_wo26 : Hid (Om W26 (lo_wo) (hi_wo) (.slice ao_wo L_wo cap_wo) (Q)) := Om.apart2 o_wo25.out p26 (by omega) (by omega) (by omega)
 have o_go26 : Hid (Om W26 (lo_go) (hi_go) (.slice ao_go L_go cap_go) (Q)) := Om.apart2 o_go25.out p26 (by omega) (by omega) (by omega)
 have c_a26 := Ke.c r_a26
 have c_aw26 := Ke.c r_aw26
 have c_w026 := Ke.c r_w026
 have c_g026 := Ke.c r_g026
 clear r_a25 c_a25 r_aw25 c_aw25 r_w025 c_w025 r_g025 c_g025 o_wv25 o_wp25 o_wo25 o_gv25 o_gp25 o_go25
 clear qm
 obtain ⟨K9, HK9⟩ : ∃ K : Int, Hid (((K3 + cnq Q : Nat) : Int) = K) := ⟨_, rfl⟩
 have n91 : (K9 != K9) = false := by simp
 have n92 : (K9 == K9) = true := by simp
 have n93 : ¬ K9 < 0 := by have := HK9.out; omega
 have n94 : ¬ (K3 : Int) < 0 := by omega
 have qm := mark_msgs W26 _ lo_go hi_go Q K3 o_go26.out (by omega) HQL.out (by omega) (by omega)
 rw [HK9.out] at qm
 go_wp2_with fail
 refine (qm).mono ?_
 rintro e W27 ⟨rfl, o_go27, p27⟩
 have o_go27 : Hid (Om W27 (lo_go) (hi_go) (.slice ao_go L_go cap_go) (mkq K3 Q)) := o_go27
 have z27 : W26.heap.size ≤ W27.heap.size := p27.size
 have B27 : Hid (Below w.heap.size w W27) := B26.out.trans (p27.below (by have := B26.out.size; omega) B26.out.size)
 have r_a27 : Hid (W27.heap[w.heap.size]? = some (.cells #[.int .i64 id, .slice ao0 l.length cap0, .int .i64 h.n, .string h.r, .slice ao1 b.length cap1, .int .i64 s, .int .i64 g.n, .string g.r] 31 (0, 0))) := (p27.block (w.heap.size) (by omega) (by omega)).trans r_a26.out
 have r_aw27 : Hid (W27.heap[w.heap.size + 1]? = some (.cells #[.int .i64 k, .int .i64 f, .int .i64 tt, .int .i64 hq.n, .string hq.r, .int .i64 n, .slice ao3 x.length cap3] 34 (0, 0))) := (p27.block (w.heap.size + 1) (by omega) (by omega)).trans r_aw26.out
 have r_w027 : Hid (W27.heap[g_w0]? = some (.cells #[.int .i64 i2, .slice ao_wv L_wv cap_wv, .int .i64 Hx.n, .string Hx.r, .slice ao_wp L_wp cap_wp, .int .i64 Sx, .int .i64 Gx.n, .string Gx.r] 44 (0, 0))) := (p27.block (g_w0) (by omega) (by omega)).trans r_w026.out
 have r_g027 : Hid (W27.heap[W11.heap.size]? = some (.cells #[.int .i64 i2, .slice ao_gv L_gv cap_gv, .int .i64 Hx.n, .string Hx.r, .slice ao_gp L_gp cap_gp, .int .i64 Sx, .int .i64 Gx.n, .string Gx.r] 44 (0, 0))) := (p27.block (W11.heap.size) (by omega) (by omega)).trans r_g026.out
 have o_wv27 : Hid (Own W27 (lo_wv) (hi_wv) 9 (.slice ao_wv L_wv cap_wv) (ss Lx)) := Own.apart o_wv26.out p27 (by omega) (by omega)
 have o_wp27 : Hid (Own W27 (lo_wp) (hi_wp) 5 (.slice ao_wp L_wp cap_wp) (bs Bx)) := Own.apart o_wp26.out p27 (by omega) (by omega)
 have o_wo27 : Hid (Om W27 (lo_wo) (hi_wo) (.slice ao_wo L_wo cap_wo) (Q)) := Om.apart o_wo26.out p27 (by omega) (by omega)
 have o_gv27 : Hid (Own W27 (lo_gv) (hi_gv) 9 (.slice ao_gv L_gv cap_gv) (ss (Strs.mts 1 Lx.length))) := Own.apart o_gv26.out p27 (by omega) (by omega)
 have o_gp27 : Hid (Own W27 (lo_gp) (hi_gp) 5 (.slice ao_gp L_gp cap_gp) (bs (marks (1 + Lx.length) Bx.length))) := Own.apart o_gp26.out p27 (by omega) (by omega)
 have c_a27 := Ke.c r_a27
 have c_aw27 := Ke.c r_aw27
 have c_w027 := Ke.c r_w027
 have c_g027 := Ke.c r_g027
 clear r_a26 c_a26 r_aw26 c_aw26 r_w026 c_w026 r_g026 c_g026 o_wv26 o_wp26 o_wo26 o_gv26 o_gp26 o_go26
 clear qm
 have qm := held_mirror W27 i2 Hx Gx _ _ Sx Lx.length Bx.length 1 o_gv27.out.sl o_gp27.out.sl (by omega) (by omega) (by omega) (by omega)
 rw [HK3.out] at qm
 go_wp2_with fail
 refine (qm).mono ?_
 rintro e W28 ⟨rfl, b28⟩
 have z28 := b28.size
 have B28 := Ke.b B27 b28
 have r_a28 := Ke.r r_a27 b28
 have r_aw28 := Ke.r r_aw27 b28
 have r_w028 := Ke.r r_w027 b28
 have r_g028 := Ke.r r_g027 b28
 have o_wv28 := Ke.o o_wv27 b28
 have o_wp28 := Ke.o o_wp27 b28
 have o_wo28 := Ke.h (Om.later o_wo27.out b28 (by omega))
 have o_gv28 := Ke.o o_gv27 b28
 have o_gp28 := Ke.o o_gp27 b28
 have o_go28 := Ke.h (Om.later o_go27.out b28 (by omega))
 have c_a28 := Ke.c r_a28
 have c_aw28 := Ke.c r_aw28
 have c_w028 := Ke.c r_w028
 have c_g028 := Ke.c r_g028
 clear r_a27 c_a27 r_aw27 c_aw27 r_w027 c_w027 r_g027 c_g027 o_wv27 o_wp27 o_wo27 o_gv27 o_gp27 o_go27
 clear qm
 have qm := held_msgs W28 _ lo_go hi_go Q K3 o_go28.out HQL.out (by omega) (by omega)
 rw [HK9.out] at qm
 go_wp2_with fail
 refine (qm).mono ?_
 rintro e W29 ⟨rfl, b29⟩
 have z29 := b29.size
 have B29 := Ke.b B28 b29
 have r_a29 := Ke.r r_a28 b29
 have r_aw29 := Ke.r r_aw28 b29
 have r_w029 := Ke.r r_w028 b29
 have r_g029 := Ke.r r_g028 b29
 have o_wv29 := Ke.o o_wv28 b29
 have o_wp29 := Ke.o o_wp28 b29
 have o_wo29 := Ke.h (Om.later o_wo28.out b29 (by omega))
 have o_gv29 := Ke.o o_gv28 b29
 have o_gp29 := Ke.o o_gp28 b29
 have o_go29 := Ke.h (Om.later o_go28.out b29 (by omega))
 have c_a29 := Ke.c r_a29
 have c_aw29 := Ke.c r_aw29
 have c_w029 := Ke.c r_w029
 have c_g029 := Ke.c r_g029
 clear r_a28 c_a28 r_aw28 c_aw28 r_w028 c_w028 r_g028 c_g028 o_wv28 o_wp28 o_wo28 o_gv28 o_gp28 o_go28
 clear qm
 go_upto_region 42 with fail
 go_cut [18, 19] (fun s18 s19 wx => ∃ g : Nat, s18 = (.pointer (some ⟨g, 0, none⟩)) ∧ W29.heap.size ≤ g ∧ g < wx.heap.size ∧ Below W29.heap.size W29 wx ∧ ∃ lo_hv hi_hv ao_hv L_hv cap_hv lo_hp hi_hp ao_hp L_hp cap_hp lo_ho hi_ho ao_ho L_ho cap_ho, s19 = .slice ao_ho L_ho cap_ho ∧ W29.heap.size ≤ lo_hv ∧ lo_hv ≤ hi_hv ∧ hi_hv ≤ wx.heap.size ∧ W29.heap.size ≤ lo_hp ∧ lo_hp ≤ hi_hp ∧ hi_hp ≤ wx.heap.size ∧ W29.heap.size ≤ lo_ho ∧ lo_ho ≤ hi_ho ∧ hi_ho ≤ wx.heap.size ∧ (hi_hv ≤ lo_hp ∨ hi_hp ≤ lo_hv) ∧ (hi_hv ≤ lo_ho ∨ hi_ho ≤ lo_hv) ∧ (hi_hp ≤ lo_ho ∨ hi_ho ≤ lo_hp) ∧ Own wx lo_hv hi_hv 9 (.slice ao_hv L_hv cap_hv) (ss Lx) ∧ Own wx lo_hp hi_hp 5 (.slice ao_hp L_hp cap_hp) (bs Bx) ∧ Om wx lo_ho hi_ho (.slice ao_ho L_ho cap_ho) (Q) ∧ (g < lo_hv ∨ hi_hv ≤ g) ∧ (g < lo_hp ∨ hi_hp ≤ g) ∧ (g < lo_ho ∨ hi_ho ≤ g) ∧ wx.heap[g]? = some (.cells #[.int .i64 i2, .slice ao_hv L_hv cap_hv, .int .i64 Hx.n, .string Hx.r, .slice ao_hp L_hp cap_hp, .int .i64 Sx, .int .i64 Gx.n, .string Gx.r] 44 (0, 0)))
 case first =>
  have D29 : Hid (Below W29.heap.size W29 W29) := Below.refl _ _
  refine wp_region_held_drew (S := fun w' => (∀ j, w'.cell? ⟨w.heap.size, j, none⟩ = #[.int .i64 id, .slice ao0 l.length cap0, .int .i64 h.n, .string h.r, .slice ao1 b.length cap1, .int .i64 s, .int .i64 g.n, .string g.r][j]?) ∧ (∀ j, w'.cell? ⟨w.heap.size + 1, j, none⟩ = #[.int .i64 k, .int .i64 f, .int .i64 tt, .int .i64 hq.n, .string hq.r, .int .i64 n, .slice ao3 x.length cap3][j]?)) (by kernel_rfl) ⟨c_a29, c_aw29⟩ (fun hHeld => ?_)
  refine Ke.y 0 rfl (fun _ _ _ h => h) ?_
  try simp only [Act.put, pu1, pu2, pu3, pu4, pu5, pu6]
  refine Ke.y 2 rfl (fun _ _ _ h => h) ?_
  try simp only [Act.put, pu1, pu2, pu3, pu4, pu5, pu6]
  refine Ke.y 4 rfl (fun _ _ _ h => h) ?_
  try simp only [Act.put, pu1, pu2, pu3, pu4, pu5, pu6]
  refine chain4 1 3 5 6 10 (fun aA xA aB wB => aB = aA.put (some 18) xA ∧ Below W29.heap.size W29 wB ∧ (∀ g : Nat, xA = (.pointer (some ⟨g, 0, none⟩)) → W29.heap.size ≤ g ∧ g < wB.heap.size ∧ wB.heap[g]? = some (.cells #[.int .i64 0, .slice none 0 0, .int .i64 0, .string ⟨#[]⟩, .slice none 0 0, .int .i64 0, .int .i64 0, .string ⟨#[]⟩] 44 (0, 0)))) (fun aA xA aB wB => ∃ (v1 : Value) (u1 : Value), aB = (aA.put (some 127) (.agg #[.int .i64 id, v1, .int .i64 h.n, .string h.r, u1, .int .i64 s, .int .i64 g.n, .string g.r])).put (some 18) xA ∧ Below W29.heap.size W29 wB ∧ Sl wB v1 (ss l) ∧ Sl wB u1 (bs b) ∧ (∀ g : Nat, xA = (.pointer (some ⟨g, 0, none⟩)) → W29.heap.size ≤ g ∧ g < wB.heap.size ∧ wB.heap[g]? = some (.cells #[.int .i64 0, .slice none 0 0, .int .i64 0, .string ⟨#[]⟩, .slice none 0 0, .int .i64 0, .int .i64 0, .string ⟨#[]⟩] 44 (0, 0)))) (fun aA xA aB wB => ∃ (v1 : Value) (u1 : Value) (v2 : Value), aB = ((aA.put (some 127) (.agg #[.int .i64 id, v1, .int .i64 h.n, .string h.r, u1, .int .i64 s, .int .i64 g.n, .string g.r])).put (some 129) (v2)).put (some 18) xA ∧ Below W29.heap.size W29 wB ∧ Sl wB v1 (ss l) ∧ Sl wB u1 (bs b) ∧ Sh wB v2 t ∧ (∀ g : Nat, xA = (.pointer (some ⟨g, 0, none⟩)) → W29.heap.size ≤ g ∧ g < wB.heap.size ∧ wB.heap[g]? = some (.cells #[.int .i64 0, .slice none 0 0, .int .i64 0, .string ⟨#[]⟩, .slice none 0 0, .int .i64 0, .int .i64 0, .string ⟨#[]⟩] 44 (0, 0)))) (fun aA xA aB wB => ∃ (v1 : Value) (u1 : Value) (v2 : Value) (v4 : Value), aB = (((aA.put (some 127) (.agg #[.int .i64 id, v1, .int .i64 h.n, .string h.r, u1, .int .i64 s, .int .i64 g.n, .string g.r])).put (some 129) (v2)).put (some 131) (.agg #[.int .i64 k, .int .i64 f, .int .i64 tt, .int .i64 hq.n, .string hq.r, .int .i64 n, v4])).put (some 18) xA ∧ Below W29.heap.size W29 wB ∧ Sl wB v1 (ss l) ∧ Sl wB u1 (bs b) ∧ Sh wB v2 t ∧ Sl wB v4 (ss x) ∧ (∀ g : Nat, xA = (.pointer (some ⟨g, 0, none⟩)) → W29.heap.size ≤ g ∧ g < wB.heap.size ∧ wB.heap[g]? = some (.cells #[.int .i64 0, .slice none 0 0, .int .i64 0, .string ⟨#[]⟩, .slice none 0 0, .int .i64 0, .int .i64 0, .string ⟨#[]⟩] 44 (0, 0)))) (fun aA xA aB wB => ∃ (v1 : Value) (u1 : Value) (v2 : Value) (v4 : Value) (lo_hv hi_hv lo_hp hi_hp lo_ho hi_ho : Nat) (ao_hv : Option Addr) (L_hv cap_hv : Nat) (ao_hp : Option Addr) (L_hp cap_hp : Nat) (ao_ho : Option Addr) (L_ho cap_ho : Nat), aB = ((((aA.put (some 127) (.agg #[.int .i64 id, v1, .int .i64 h.n, .string h.r, u1, .int .i64 s, .int .i64 g.n, .string g.r])).put (some 129) (v2)).put (some 131) (.agg #[.int .i64 k, .int .i64 f, .int .i64 tt, .int .i64 hq.n, .string hq.r, .int .i64 n, v4])).put (some 132) (.tuple #[.agg #[.int .i64 i2, .slice ao_hv L_hv cap_hv, .int .i64 Hx.n, .string Hx.r, .slice ao_hp L_hp cap_hp, .int .i64 Sx, .int .i64 Gx.n, .string Gx.r], .slice ao_ho L_ho cap_ho])).put (some 18) xA ∧ Below W29.heap.size W29 wB ∧ W29.heap.size ≤ lo_hv ∧ lo_hv ≤ hi_hv ∧ hi_hv ≤ wB.heap.size ∧ W29.heap.size ≤ lo_hp ∧ lo_hp ≤ hi_hp ∧ hi_hp ≤ wB.heap.size ∧ W29.heap.size ≤ lo_ho ∧ lo_ho ≤ hi_ho ∧ hi_ho ≤ wB.heap.size ∧ (hi_hv ≤ lo_hp ∨ hi_hp ≤ lo_hv) ∧ (hi_hv ≤ lo_ho ∨ hi_ho ≤ lo_hv) ∧ (hi_hp ≤ lo_ho ∨ hi_ho ≤ lo_hp) ∧ Own wB lo_hv hi_hv 9 (.slice ao_hv L_hv cap_hv) (ss Lx) ∧ Own wB lo_hp hi_hp 5 (.slice ao_hp L_hp cap_hp) (bs Bx) ∧ Om wB lo_ho hi_ho (.slice ao_ho L_ho cap_ho) (Q) ∧ (∀ g : Nat, xA = (.pointer (some ⟨g, 0, none⟩)) → W29.heap.size ≤ g ∧ g < wB.heap.size ∧ wB.heap[g]? = some (.cells #[.int .i64 0, .slice none 0 0, .int .i64 0, .string ⟨#[]⟩, .slice none 0 0, .int .i64 0, .int .i64 0, .string ⟨#[]⟩] 44 (0, 0)) ∧ (g < lo_hv ∨ hi_hv ≤ g) ∧ (g < lo_hp ∨ hi_hp ≤ g) ∧ (g < lo_ho ∨ hi_ho ≤ g))) (by decide) (by decide) (by decide) (by decide) (by kernel_rfl) (by kernel_rfl) (by kernel_rfl) (by kernel_rfl) (by kernel_rfl) (by kernel_rfl) (by kernel_rfl) (by kernel_rfl) ?hC0x42 ?hC1x42 ?hC2x42 ?hC3x42 ?hA0x42 ?hA1x42 ?hA2x42 ?hA3x42 ?tJx42 ?tKx42 ?h0x42 hHeld
  case hC0x42 =>
   rintro xA a1 wq ⟨rfl, hD, hx⟩ hHeld
   have hBw : Below w.heap.size w wq := B29.out.trans (hD.mono B29.out.size)
   refine wpOp_weak rfl (fun K hK => ?_)
   try simp only [Act.put, pu1, pu2, pu3, pu4, pu5, pu6]
   go_simp
   refine (to_mirror wq _ _ id l h b s g (HS.out.later hBw) (HSB.out.later hBw) (by omega) (by omega)).mono ?_
   rintro e w2 ⟨v1, u1, rfl, p9, p5, b2⟩
   refine hK.out _ _ ⟨⟨(Ke.k (W := wq) hHeld.1 b2), (Ke.k (W := wq) hHeld.2 b2)⟩, v1, u1, rfl, hD.trans (b2.mono hD.size), p9.sl, p5.sl, fun g hg => ?_⟩
   obtain ⟨g1, g2, g3⟩ := hx g hg
   exact ⟨g1, by have := b2.size; omega, rowKeep g3 b2⟩
  case hC1x42 =>
   rintro xA a1 wq ⟨v1, u1, rfl, hD, hf0, hf1, hx⟩ hHeld
   have hBw : Below w.heap.size w wq := B29.out.trans (hD.mono B29.out.size)
   refine wpOp_weak rfl (fun K hK => ?_)
   try simp only [Act.put, pu1, pu2, pu3, pu4, pu5, pu6]
   go_simp
   refine (q3 wq hBw).mono ?_
   rintro e w2 ⟨v2, rfl, p9, b2⟩
   refine hK.out _ _ ⟨⟨(Ke.k (W := wq) hHeld.1 b2), (Ke.k (W := wq) hHeld.2 b2)⟩, v1, u1, v2, rfl, hD.trans (b2.mono hD.size), Sl.later hf0 b2, Sl.later hf1 b2, p9.sh, fun g hg => ?_⟩
   obtain ⟨g1, g2, g3⟩ := hx g hg
   exact ⟨g1, by have := b2.size; omega, rowKeep g3 b2⟩
  case hC2x42 =>
   rintro xA a1 wq ⟨v1, u1, v2, rfl, hD, hf0, hf1, hf2, hx⟩ hHeld
   have hBw : Below w.heap.size w wq := B29.out.trans (hD.mono B29.out.size)
   refine wpOp_weak rfl (fun K hK => ?_)
   try simp only [Act.put, pu1, pu2, pu3, pu4, pu5, pu6]
   go_simp
   refine (to_msg wq _ ⟨k, f, tt, hq, n, x⟩ (HX.out.later hBw) (by simp only; omega)).mono ?_
   rintro e w2 ⟨v4, rfl, p9, b2⟩
   refine hK.out _ _ ⟨⟨(Ke.k (W := wq) hHeld.1 b2), (Ke.k (W := wq) hHeld.2 b2)⟩, v1, u1, v2, v4, rfl, hD.trans (b2.mono hD.size), Sl.later hf0 b2, Sl.later hf1 b2, Sh.later hf2 b2, p9.sl, fun g hg => ?_⟩
   obtain ⟨g1, g2, g3⟩ := hx g hg
   exact ⟨g1, by have := b2.size; omega, rowKeep g3 b2⟩
  case hC3x42 =>
   rintro xA a1 wq ⟨v1, u1, v2, v4, rfl, hD, hf0, hf1, hf2, hf3, hx⟩ hHeld
   have hBw : Below w.heap.size w wq := B29.out.trans (hD.mono B29.out.size)
   refine wpOp_weak rfl (fun K hK => ?_)
   try simp only [Act.put, pu1, pu2, pu3, pu4, pu5, pu6]
   go_simp
   refine (q2 wq _ _ _ _ hBw hf0 hf1 hf2 hf3).mono ?_
   rintro e w2 ⟨v_hv, v_hp, v_ho, mid, rfl, e8, e9, p9, p5, pm, b2⟩
   obtain ⟨lo_hv, hi_hv, lo_hp, hi_hp, e1, e2, e3, e4, e5, e6, e7, oo_hv, oo_hp⟩ := pairN p9 p5 e8
   obtain ⟨ao_hv, L_hv, cap_hv, rfl, _, _⟩ := oo_hv.form
   obtain ⟨ao_hp, L_hp, cap_hp, rfl, _, _⟩ := oo_hp.form
   obtain ⟨ao_ho, L_ho, cap_ho, rfl, hL8, hL9⟩ := pm.form
   clear hL8 hL9
   obtain ⟨lo_ho, hi_ho, e10, e11, oo_ho⟩ : ∃ lo hi, lo = mid ∧ hi = w2.heap.size ∧ Om w2 lo hi (.slice ao_ho L_ho cap_ho) Q := ⟨_, _, rfl, rfl, pm⟩
   have hzq := b2.size
   have hzd := hD.size
   refine hK.out _ _ ⟨⟨(Ke.k (W := wq) hHeld.1 b2), (Ke.k (W := wq) hHeld.2 b2)⟩, v1, u1, v2, v4, lo_hv, hi_hv, lo_hp, hi_hp, lo_ho, hi_ho, ao_hv, L_hv, cap_hv, ao_hp, L_hp, cap_hp, ao_ho, L_ho, cap_ho, rfl, hD.trans (b2.mono hD.size), by omega, by omega, by omega, by omega, by omega, by omega, by omega, by omega, by omega, by omega, by omega, by omega, oo_hv, oo_hp, oo_ho, fun g hg => ?_⟩
   obtain ⟨g1, g2, g3⟩ := hx g hg
   exact ⟨g1, by omega, rowKeep g3 b2, by omega, by omega, by omega⟩
  case hA0x42 =>
   rintro a1 wq ⟨rfl, hD, hx⟩ hHeld
   refine wpOp_weak rfl (fun K hK => ?_)
   try simp only [Act.put, pu1, pu2, pu3, pu4, pu5, pu6]
   go_simp
   refine hK.out _ _ ⟨⟨(Ke.k (W := wq) hHeld.1 ((Below.refl _ _).alloc (Nat.le_refl _) _)), (Ke.k (W := wq) hHeld.2 ((Below.refl _ _).alloc (Nat.le_refl _) _))⟩, wq.heap.size, rfl, hD.alloc hD.size _, fun g hg => ?_⟩
   obtain rfl : wq.heap.size = g := by simpa using hg
   exact ⟨hD.size, by simp, heap_alloc_new wq _⟩
  case hA1x42 =>
   rintro a1 wq ⟨v1, u1, rfl, hD, hf0, hf1, hx⟩ hHeld
   refine wpOp_weak rfl (fun K hK => ?_)
   try simp only [Act.put, pu1, pu2, pu3, pu4, pu5, pu6]
   go_simp
   refine hK.out _ _ ⟨⟨(Ke.k (W := wq) hHeld.1 ((Below.refl _ _).alloc (Nat.le_refl _) _)), (Ke.k (W := wq) hHeld.2 ((Below.refl _ _).alloc (Nat.le_refl _) _))⟩, wq.heap.size, v1, u1, rfl, hD.alloc hD.size _, Sl.later hf0 ((Below.refl _ _).alloc (Nat.le_refl _) _), Sl.later hf1 ((Below.refl _ _).alloc (Nat.le_refl _) _), fun g hg => ?_⟩
   obtain rfl : wq.heap.size = g := by simpa using hg
   exact ⟨hD.size, by simp, heap_alloc_new wq _⟩
  case hA2x42 =>
   rintro a1 wq ⟨v1, u1, v2, rfl, hD, hf0, hf1, hf2, hx⟩ hHeld
   refine wpOp_weak rfl (fun K hK => ?_)
   try simp only [Act.put, pu1, pu2, pu3, pu4, pu5, pu6]
   go_simp
   refine hK.out _ _ ⟨⟨(Ke.k (W := wq) hHeld.1 ((Below.refl _ _).alloc (Nat.le_refl _) _)), (Ke.k (W := wq) hHeld.2 ((Below.refl _ _).alloc (Nat.le_refl _) _))⟩, wq.heap.size, v1, u1, v2, rfl, hD.alloc hD.size _, Sl.later hf0 ((Below.refl _ _).alloc (Nat.le_refl _) _), Sl.later hf1 ((Below.refl _ _).alloc (Nat.le_refl _) _), Sh.later hf2 ((Below.refl _ _).alloc (Nat.le_refl _) _), fun g hg => ?_⟩
   obtain rfl : wq.heap.size = g := by simpa using hg
   exact ⟨hD.size, by simp, heap_alloc_new wq _⟩
  case hA3x42 =>
   rintro a1 wq ⟨v1, u1, v2, v4, rfl, hD, hf0, hf1, hf2, hf3, hx⟩ hHeld
   refine wpOp_weak rfl (fun K hK => ?_)
   try simp only [Act.put, pu1, pu2, pu3, pu4, pu5, pu6]
   go_simp
   refine hK.out _ _ ⟨⟨(Ke.k (W := wq) hHeld.1 ((Below.refl _ _).alloc (Nat.le_refl _) _)), (Ke.k (W := wq) hHeld.2 ((Below.refl _ _).alloc (Nat.le_refl _) _))⟩, wq.heap.size, v1, u1, v2, v4, rfl, hD.alloc hD.size _, Sl.later hf0 ((Below.refl _ _).alloc (Nat.le_refl _) _), Sl.later hf1 ((Below.refl _ _).alloc (Nat.le_refl _) _), Sh.later hf2 ((Below.refl _ _).alloc (Nat.le_refl _) _), Sl.later hf3 ((Below.refl _ _).alloc (Nat.le_refl _) _), fun g hg => ?_⟩
   obtain rfl : wq.heap.size = g := by simpa using hg
   exact ⟨hD.size, by simp, heap_alloc_new wq _⟩
  case tJx42 =>
   rintro a1 W30 ⟨v1, u1, v2, v4, lo_hv, hi_hv, lo_hp, hi_hp, lo_ho, hi_ho, ao_hv, L_hv, cap_hv, ao_hp, L_hp, cap_hp, ao_ho, L_ho, cap_ho, rfl, D30, d1_hv, d2_hv, d3_hv, d1_hp, d2_hp, d3_hp, d1_ho, d2_ho, d3_ho, d_hv_hp, d_hv_ho, d_hp_ho, oo_hv, oo_hp, oo_ho, hx⟩ hHeld
   have z30 : W29.heap.size ≤ W30.heap.size := D30.size
   have B30 := Ke.b B29 D30
   have D30 : Hid (Below W29.heap.size W29 W30) := D30
   have o_hv30 : Hid (Own W30 lo_hv hi_hv 9 (.slice ao_hv L_hv cap_hv) (ss Lx)) := oo_hv
   clear oo_hv
   have o_hp30 : Hid (Own W30 lo_hp hi_hp 5 (.slice ao_hp L_hp cap_hp) (bs Bx)) := oo_hp
   clear oo_hp
   have o_ho30 : Hid (Om W30 lo_ho hi_ho (.slice ao_ho L_ho cap_ho) (Q)) := oo_ho
   clear oo_ho
   clear hx
   try simp only [Act.put, pu1, pu2, pu3, pu4, pu5, pu6]
   refine Ke.y 7 rfl (fun _ _ _ h => h) ?_
   try simp only [Act.put, pu1, pu2, pu3, pu4, pu5, pu6]
   refine Ke.y 8 rfl (fun _ _ _ h => h) ?_
   try simp only [Act.put, pu1, pu2, pu3, pu4, pu5, pu6]
   refine Ke.y 9 rfl (fun _ _ _ h => h) ?_
   try simp only [Act.put, pu1, pu2, pu3, pu4, pu5, pu6]
   refine Ke.z 10 rfl (fun K hK => ?_)
   go_simp
   refine hK.out _ _ ⟨(Ke.k (W := W30) hHeld.1 ((Below.refl _ _).alloc (Nat.le_refl _) _)), (Ke.k (W := W30) hHeld.2 ((Below.refl _ _).alloc (Nat.le_refl _) _))⟩ (fun hHeld => ?_)
   clear hK K
   try simp only [Act.put, pu1, pu2, pu3, pu4, pu5, pu6]
   obtain ⟨W31, HW31, b31, y31, r_h031⟩ : ∃ X, Hid ((W30.alloc (.cells #[.int .i64 0, .slice none 0 0, .int .i64 0, .string ⟨#[]⟩, .slice none 0 0, .int .i64 0, .int .i64 0, .string ⟨#[]⟩] 44)) = X) ∧ Below W30.heap.size W30 X ∧ W30.heap.size + 1 ≤ X.heap.size ∧ Hid (X.heap[W30.heap.size]? = some (.cells #[.int .i64 0, .slice none 0 0, .int .i64 0, .string ⟨#[]⟩, .slice none 0 0, .int .i64 0, .int .i64 0, .string ⟨#[]⟩] 44 (0, 0))) := ⟨_, rfl, ((Below.refl _ _).alloc (Nat.le_refl _) _), (by show _ ≤ (W30.heap.push _).size; simp), heap_alloc_new W30 _⟩
   have HHW31 := HW31.out
   rw [HHW31] at hHeld ⊢
   clear HHW31
   have z31 := b31.size
   have B31 := Ke.b B30 b31
   have o_hv31 := Ke.o o_hv30 b31
   have o_hp31 := Ke.o o_hp30 b31
   have o_ho31 := Ke.h (Om.later o_ho30.out b31 (by omega))
   have c_h031 := Ke.c r_h031
   clear o_hv30 o_hp30 o_ho30
   have D31 := Ke.b D30 b31
   refine Ke.z 11 rfl (fun K hK => ?_)
   rw [if_pos (by rfl)]
   refine wp_store_row 44 _ _ rfl (W30.heap.size) (mq i2 (.slice ao_hv L_hv cap_hv) Hx (.slice ao_hp L_hp cap_hp) Sx Gx) rfl rfl 44 _ r_h031.out (sizeQ _ _ _ _ _ _) rfl (oneQ _ _ _ _ rfl rfl) ?_
   refine hK.out _ _ ⟨(Ke.w (by show w.heap.size ≠ W30.heap.size; omega) hHeld.1), (Ke.w (by show w.heap.size + 1 ≠ W30.heap.size; omega) hHeld.2)⟩ (fun hHeld => ?_)
   clear hK K
   try simp only [Act.put, pu1, pu2, pu3, pu4, pu5, pu6]
   have D32a : Below W29.heap.size W29 (W31.setRow (W30.heap.size) (mq i2 (.slice ao_hv L_hv cap_hv) Hx (.slice ao_hp L_hp cap_hp) Sx Gx)) := below_setRow D31.out (by omega) _
   obtain ⟨W32, HW32⟩ : ∃ X, Hid (W31.setRow (W30.heap.size) (mq i2 (.slice ao_hv L_hv cap_hv) Hx (.slice ao_hp L_hp cap_hp) Sx Gx) = X) := ⟨_, rfl⟩
   have z32 : W31.heap.size ≤ W32.heap.size := by rw [← HW32.out]; simp
   have B32 : Hid (Below w.heap.size w W32) := by show Below _ _ _; rw [← HW32.out]; exact below_setRow B31.out (by have := B31.out.size; omega) _
   have o_hv32 : Hid (Own W32 (lo_hv) (hi_hv) 9 (.slice ao_hv L_hv cap_hv) (ss Lx)) := by show Own _ _ _ _ _ _; rw [← HW32.out]; exact Own.setRow o_hv31.out _ (by omega)
   have o_hp32 : Hid (Own W32 (lo_hp) (hi_hp) 5 (.slice ao_hp L_hp cap_hp) (bs Bx)) := by show Own _ _ _ _ _ _; rw [← HW32.out]; exact Own.setRow o_hp31.out _ (by omega)
   have o_ho32 : Hid (Om W32 (lo_ho) (hi_ho) (.slice ao_ho L_ho cap_ho) (Q)) := by show Om _ _ _ _ _; rw [← HW32.out]; exact Om.setRow o_ho31.out _ (by omega)
   have r_h032 : Hid (W32.heap[W30.heap.size]? = some (.cells #[.int .i64 i2, .slice ao_hv L_hv cap_hv, .int .i64 Hx.n, .string Hx.r, .slice ao_hp L_hp cap_hp, .int .i64 Sx, .int .i64 Gx.n, .string Gx.r] 44 (0, 0))) := by show _ = _; rw [← HW32.out]; exact setRow_heap _ _ _ _ _ (0, 0) r_h031.out
   rw [HW32.out]
   clear r_h031 c_h031 o_hv31 o_hp31 o_ho31
   have c_h032 := Ke.c r_h032
   rw [HW32.out] at hHeld
   have D32 : Hid (Below W29.heap.size W29 W32) := by show Below _ _ _; rw [← HW32.out]; exact D32a
   refine Ke.y 12 rfl (fun _ _ _ h => h) ?_
   try simp only [Act.put, pu1, pu2, pu3, pu4, pu5, pu6]
   refine wpAnyH_done (by kernel_rfl) ?_ _
   clear hHeld
   go_wp2_with fail
   go_meet
   exact ⟨W30.heap.size, rfl, by omega, (Array.getElem?_eq_some_iff.1 r_h032.out).1, D32.out, lo_hv, hi_hv, ao_hv, L_hv, cap_hv, lo_hp, hi_hp, ao_hp, L_hp, cap_hp, lo_ho, hi_ho, ao_ho, L_ho, cap_ho, rfl, by omega, by omega, by omega, by omega, by omega, by omega, by omega, by omega, by omega, by omega, by omega, by omega, o_hv32.out, o_hp32.out, o_ho32.out, by omega, by omega, by omega, r_h032.out⟩
  case tKx42 =>
   rintro g_h0 a1 W30 ⟨v1, u1, v2, v4, lo_hv, hi_hv, lo_hp, hi_hp, lo_ho, hi_ho, ao_hv, L_hv, cap_hv, ao_hp, L_hp, cap_hp, ao_ho, L_ho, cap_ho, rfl, D30, d1_hv, d2_hv, d3_hv, d1_hp, d2_hp, d3_hp, d1_ho, d2_ho, d3_ho, d_hv_hp, d_hv_ho, d_hp_ho, oo_hv, oo_hp, oo_ho, hx⟩ hHeld
   have z30 : W29.heap.size ≤ W30.heap.size := D30.size
   have B30 := Ke.b B29 D30
   have D30 : Hid (Below W29.heap.size W29 W30) := D30
   obtain ⟨hg1_h0, hg2_h0, hg3_h0, hgf_hv, hgf_hp, hgf_ho⟩ := hx g_h0 rfl
   have r_h030 : Hid (W30.heap[g_h0]? = some (.cells #[.int .i64 0, .slice none 0 0, .int .i64 0, .string ⟨#[]⟩, .slice none 0 0, .int .i64 0, .int .i64 0, .string ⟨#[]⟩] 44 (0, 0))) := hg3_h0
   clear hg3_h0
   have o_hv30 : Hid (Own W30 lo_hv hi_hv 9 (.slice ao_hv L_hv cap_hv) (ss Lx)) := oo_hv
   clear oo_hv
   have o_hp30 : Hid (Own W30 lo_hp hi_hp 5 (.slice ao_hp L_hp cap_hp) (bs Bx)) := oo_hp
   clear oo_hp
   have o_ho30 : Hid (Om W30 lo_ho hi_ho (.slice ao_ho L_ho cap_ho) (Q)) := oo_ho
   clear oo_ho
   clear hx
   try simp only [Act.put, pu1, pu2, pu3, pu4, pu5, pu6]
   have c_h030 := Ke.c r_h030
   refine Ke.y 7 rfl (fun _ _ _ h => h) ?_
   try simp only [Act.put, pu1, pu2, pu3, pu4, pu5, pu6]
   refine Ke.y 8 rfl (fun _ _ _ h => h) ?_
   try simp only [Act.put, pu1, pu2, pu3, pu4, pu5, pu6]
   refine Ke.y 9 rfl (fun _ _ _ h => h) ?_
   try simp only [Act.put, pu1, pu2, pu3, pu4, pu5, pu6]
   refine Ke.z 11 rfl (fun K hK => ?_)
   rw [if_pos (by rfl)]
   refine wp_store_row 44 _ _ rfl (g_h0) (mq i2 (.slice ao_hv L_hv cap_hv) Hx (.slice ao_hp L_hp cap_hp) Sx Gx) rfl rfl 44 _ r_h030.out (sizeQ _ _ _ _ _ _) rfl (oneQ _ _ _ _ rfl rfl) ?_
   refine hK.out _ _ ⟨(Ke.w (by show w.heap.size ≠ g_h0; omega) hHeld.1), (Ke.w (by show w.heap.size + 1 ≠ g_h0; omega) hHeld.2)⟩ (fun hHeld => ?_)
   clear hK K
   try simp only [Act.put, pu1, pu2, pu3, pu4, pu5, pu6]
   have D31a : Below W29.heap.size W29 (W30.setRow (g_h0) (mq i2 (.slice ao_hv L_hv cap_hv) Hx (.slice ao_hp L_hp cap_hp) Sx Gx)) := below_setRow D30.out (by omega) _
   obtain ⟨W31, HW31⟩ : ∃ X, Hid (W30.setRow (g_h0) (mq i2 (.slice ao_hv L_hv cap_hv) Hx (.slice ao_hp L_hp cap_hp) Sx Gx) = X) := ⟨_, rfl⟩
   have z31 : W30.heap.size ≤ W31.heap.size := by rw [← HW31.out]; simp
   have B31 : Hid (Below w.heap.size w W31) := by show Below _ _ _; rw [← HW31.out]; exact below_setRow B30.out (by have := B30.out.size; omega) _
   have o_hv31 : Hid (Own W31 (lo_hv) (hi_hv) 9 (.slice ao_hv L_hv cap_hv) (ss Lx)) := by show Own _ _ _ _ _ _; rw [← HW31.out]; exact Own.setRow o_hv30.out _ (by omega)
   have o_hp31 : Hid (Own W31 (lo_hp) (hi_hp) 5 (.slice ao_hp L_hp cap_hp) (bs Bx)) := by show Own _ _ _ _ _ _; rw [← HW31.out]; exact Own.setRow o_hp30.out _ (by omega)
   have o_ho31 : Hid (Om W31 (lo_ho) (hi_ho) (.slice ao_ho L_ho cap_ho) (Q)) := by show Om _ _ _ _ _; rw [← HW31.out]; exact Om.setRow o_ho30.out _ (by omega)
   have r_h031 : Hid (W31.heap[g_h0]? = some (.cells #[.int .i64 i2, .slice ao_hv L_hv cap_hv, .int .i64 Hx.n, .string Hx.r, .slice ao_hp L_hp cap_hp, .int .i64 Sx, .int .i64 Gx.n, .string Gx.r] 44 (0, 0))) := by show _ = _; rw [← HW31.out]; exact setRow_heap _ _ _ _ _ (0, 0) r_h030.out
   rw [HW31.out]
   clear r_h030 c_h030 o_hv30 o_hp30 o_ho30
   have c_h031 := Ke.c r_h031
   rw [HW31.out] at hHeld
   have D31 : Hid (Below W29.heap.size W29 W31) := by show Below _ _ _; rw [← HW31.out]; exact D31a
   refine Ke.y 12 rfl (fun _ _ _ h => h) ?_
   try simp only [Act.put, pu1, pu2, pu3, pu4, pu5, pu6]
   refine wpAnyH_done (by kernel_rfl) ?_ _
   clear hHeld
   go_wp2_with fail
   go_meet
   exact ⟨g_h0, rfl, by omega, (Array.getElem?_eq_some_iff.1 r_h031.out).1, D31.out, lo_hv, hi_hv, ao_hv, L_hv, cap_hv, lo_hp, hi_hp, ao_hp, L_hp, cap_hp, lo_ho, hi_ho, ao_ho, L_ho, cap_ho, rfl, by omega, by omega, by omega, by omega, by omega, by omega, by omega, by omega, by omega, by omega, by omega, by omega, o_hv31.out, o_hp31.out, o_ho31.out, by omega, by omega, by omega, r_h031.out⟩
  case h0x42 =>
   exact ⟨rfl, Below.drew (Below.refl _ _), fun g hg => by cases hg⟩
 case rest =>
 obtain ⟨g_h0, rfl, hg_h0, hg2_h0, b30, lo_hv, hi_hv, ao_hv, L_hv, cap_hv, lo_hp, hi_hp, ao_hp, L_hp, cap_hp, lo_ho, hi_ho, ao_ho, L_ho, cap_ho, rfl, d1_hv, d2_hv, d3_hv, d1_hp, d2_hp, d3_hp, d1_ho, d2_ho, d3_ho, d_hv_hp, d_hv_ho, d_hp_ho, oo_hv, oo_hp, oo_ho, hgf_hv, hgf_hp, hgf_ho, r_h030⟩ := hcut
 revert hg2_h0 b30 d3_hv d3_hp d3_ho oo_hv oo_hp oo_ho r_h030
 generalize wc = W30
 intro hg2_h0 b30 d3_hv d3_hp d3_ho oo_hv oo_hp oo_ho r_h030
 have r_h030 : Hid (W30.heap[g_h0]? = some (.cells #[.int .i64 i2, .slice ao_hv L_hv cap_hv, .int .i64 Hx.n, .string Hx.r, .slice ao_hp L_hp cap_hp, .int .i64 Sx, .int .i64 Gx.n, .string Gx.r] 44 (0, 0))) := r_h030
 have o_hv30 : Hid (Own W30 lo_hv hi_hv 9 (.slice ao_hv L_hv cap_hv) (ss Lx)) := oo_hv
 clear oo_hv
 have o_hp30 : Hid (Own W30 lo_hp hi_hp 5 (.slice ao_hp L_hp cap_hp) (bs Bx)) := oo_hp
 clear oo_hp
 have o_ho30 : Hid (Om W30 lo_ho hi_ho (.slice ao_ho L_ho cap_ho) (Q)) := oo_ho
 clear oo_ho
 have z30 := b30.size
 have B30 := Ke.b B29 b30
 have r_a30 := Ke.r r_a29 b30
 have r_aw30 := Ke.r r_aw29 b30
 have r_w030 := Ke.r r_w029 b30
 have r_g030 := Ke.r r_g029 b30
 have o_wv30 := Ke.o o_wv29 b30
 have o_wp30 := Ke.o o_wp29 b30
 have o_wo30 := Ke.h (Om.later o_wo29.out b30 (by omega))
 have o_gv30 := Ke.o o_gv29 b30
 have o_gp30 := Ke.o o_gp29 b30
 have o_go30 := Ke.h (Om.later o_go29.out b30 (by omega))
 have c_a30 := Ke.c r_a30
 have c_aw30 := Ke.c r_aw30
 have c_w030 := Ke.c r_w030
 have c_g030 := Ke.c r_g030
 have c_h030 := Ke.c r_h030
 clear r_a29 c_a29 r_aw29 c_aw29 r_w029 c_w029 r_g029 c_g029 o_wv29 o_wp29 o_wo29 o_gv29 o_gp29 o_go29
 go_wp2_with fail
 refine (eq_mirror W30 _ _ _ _ i2 Lx Hx Bx Sx Gx o_hv30.out.sl o_wv30.out.sl o_hp30.out.sl o_wp30.out.sl (by omega) (by omega)).mono ?_
 rintro e W31 ⟨rfl, b31⟩
 have z31 := b31.size
 have B31 := Ke.b B30 b31
 have r_a31 := Ke.r r_a30 b31
 have r_aw31 := Ke.r r_aw30 b31
 have r_w031 := Ke.r r_w030 b31
 have r_g031 := Ke.r r_g030 b31
 have r_h031 := Ke.r r_h030 b31
 have o_wv31 := Ke.o o_wv30 b31
 have o_wp31 := Ke.o o_wp30 b31
 have o_wo31 := Ke.h (Om.later o_wo30.out b31 (by omega))
 have o_gv31 := Ke.o o_gv30 b31
 have o_gp31 := Ke.o o_gp30 b31
 have o_go31 := Ke.h (Om.later o_go30.out b31 (by omega))
 have o_hv31 := Ke.o o_hv30 b31
 have o_hp31 := Ke.o o_hp30 b31
 have o_ho31 := Ke.h (Om.later o_ho30.out b31 (by omega))
 have c_a31 := Ke.c r_a31
 have c_aw31 := Ke.c r_aw31
 have c_w031 := Ke.c r_w031
 have c_g031 := Ke.c r_g031
 have c_h031 := Ke.c r_h031
 clear r_a30 c_a30 r_aw30 c_aw30 r_w030 c_w030 r_g030 c_g030 r_h030 c_h030 o_wv30 o_wp30 o_wo30 o_gv30 o_gp30 o_go30 o_hv30 o_hp30 o_ho30
 go_wp2_with fail
 refine (eq_msgs W31 _ _ _ _ _ _ Q o_ho31.out o_wo31.out (fun m hm => Nat.le_trans (HQL.out m hm) (by omega))).mono ?_
 rintro e W32 ⟨rfl, b32⟩
 have z32 := b32.size
 have B32 := Ke.b B31 b32
 have r_a32 := Ke.r r_a31 b32
 have r_aw32 := Ke.r r_aw31 b32
 have r_w032 := Ke.r r_w031 b32
 have r_g032 := Ke.r r_g031 b32
 have r_h032 := Ke.r r_h031 b32
 have o_wv32 := Ke.o o_wv31 b32
 have o_wp32 := Ke.o o_wp31 b32
 have o_wo32 := Ke.h (Om.later o_wo31.out b32 (by omega))
 have o_gv32 := Ke.o o_gv31 b32
 have o_gp32 := Ke.o o_gp31 b32
 have o_go32 := Ke.h (Om.later o_go31.out b32 (by omega))
 have o_hv32 := Ke.o o_hv31 b32
 have o_hp32 := Ke.o o_hp31 b32
 have o_ho32 := Ke.h (Om.later o_ho31.out b32 (by omega))
 have c_a32 := Ke.c r_a32
 have c_aw32 := Ke.c r_aw32
 have c_w032 := Ke.c r_w032
 have c_g032 := Ke.c r_g032
 have c_h032 := Ke.c r_h032
 clear r_a31 c_a31 r_aw31 c_aw31 r_w031 c_w031 r_g031 c_g031 r_h031 c_h031 o_wv31 o_wp31 o_wo31 o_gv31 o_gp31 o_go31 o_hv31 o_hp31 o_ho31
 have qm := held_mirror W32 i2 Hx Gx _ _ Sx Lx.length Bx.length 1 o_gv32.out.sl o_gp32.out.sl (by omega) (by omega) (by omega) (by omega)
 rw [HK3.out] at qm
 go_wp2_with fail
 refine (qm).mono ?_
 rintro e W33 ⟨rfl, b33⟩
 have z33 := b33.size
 have B33 := Ke.b B32 b33
 have r_a33 := Ke.r r_a32 b33
 have r_aw33 := Ke.r r_aw32 b33
 have r_w033 := Ke.r r_w032 b33
 have r_g033 := Ke.r r_g032 b33
 have r_h033 := Ke.r r_h032 b33
 have o_wv33 := Ke.o o_wv32 b33
 have o_wp33 := Ke.o o_wp32 b33
 have o_wo33 := Ke.h (Om.later o_wo32.out b33 (by omega))
 have o_gv33 := Ke.o o_gv32 b33
 have o_gp33 := Ke.o o_gp32 b33
 have o_go33 := Ke.h (Om.later o_go32.out b33 (by omega))
 have o_hv33 := Ke.o o_hv32 b33
 have o_hp33 := Ke.o o_hp32 b33
 have o_ho33 := Ke.h (Om.later o_ho32.out b33 (by omega))
 have c_a33 := Ke.c r_a33
 have c_aw33 := Ke.c r_aw33
 have c_w033 := Ke.c r_w033
 have c_g033 := Ke.c r_g033
 have c_h033 := Ke.c r_h033
 clear r_a32 c_a32 r_aw32 c_aw32 r_w032 c_w032 r_g032 c_g032 r_h032 c_h032 o_wv32 o_wp32 o_wo32 o_gv32 o_gp32 o_go32 o_hv32 o_hp32 o_ho32
 clear qm
 have qm := held_msgs W33 _ lo_go hi_go Q K3 o_go33.out HQL.out (by omega) (by omega)
 rw [HK9.out] at qm
 go_wp2_with fail
 refine (qm).mono ?_
 rintro e W34 ⟨rfl, b34⟩
 have z34 := b34.size
 have B34 := Ke.b B33 b34
 have r_a34 := Ke.r r_a33 b34
 have r_aw34 := Ke.r r_aw33 b34
 have r_w034 := Ke.r r_w033 b34
 have r_g034 := Ke.r r_g033 b34
 have r_h034 := Ke.r r_h033 b34
 have o_wv34 := Ke.o o_wv33 b34
 have o_wp34 := Ke.o o_wp33 b34
 have o_wo34 := Ke.h (Om.later o_wo33.out b34 (by omega))
 have o_gv34 := Ke.o o_gv33 b34
 have o_gp34 := Ke.o o_gp33 b34
 have o_go34 := Ke.h (Om.later o_go33.out b34 (by omega))
 have o_hv34 := Ke.o o_hv33 b34
 have o_hp34 := Ke.o o_hp33 b34
 have o_ho34 := Ke.h (Om.later o_ho33.out b34 (by omega))
 have c_a34 := Ke.c r_a34
 have c_aw34 := Ke.c r_aw34
 have c_w034 := Ke.c r_w034
 have c_g034 := Ke.c r_g034
 have c_h034 := Ke.c r_h034
 clear r_a33 c_a33 r_aw33 c_aw33 r_w033 c_w033 r_g033 c_g033 r_h033 c_h033 o_wv33 o_wp33 o_wo33 o_gv33 o_gp33 o_go33 o_hv33 o_hp33 o_ho33
 clear qm
 go_wp2
 go_ret
 exact ⟨rfl, B34.out⟩
end Go.Proofs.YtchonoonclllbabGreatDoor.Mi
