/- Texts in one: Mg6. -/
import Derived.Test.YtchonoonclllbaaGreatDoorPh15
set_option maxHeartbeats 16000000
set_option linter.unusedVariables false
set_option linter.unusedSimpArgs false
namespace Go.Proofs.YtchonoonclllbaaGreatDoor.Mg
open Go.RowKit Mem Laws Bytes Sha Tr Draw He Lg
theorem lit1M (w : World) (lo : Nat) (x : ByteArray) (h : lo ≤ w.heap.size) : Own (w.alloc (.cells #[.string x] 9)) lo (w.alloc (.cells #[.string x] 9)).heap.size 9 (.slice (some ⟨w.heap.size, 0, none⟩) 1 1) (ss [x]) :=
 Own.of (World.ownsRow_lit w #[.string x] 1 h (by unfold maxLen; omega) rfl)
theorem Apart.groM {lo hi : Nat} {a w w' : World} {r : Option Nat} (h : Apart lo hi a w) (g : w.grownBy w' r) (hr : ∀ k, r = some k → a.heap.size ≤ k) : Apart lo hi a w' :=
 h.on (belowGro (Below.refl a.heap.size w) g h.size hr)
structure Dm (N : Nat) (m : Ms) : Prop where
 len : m.x.length ≤ N
 sz : ∀ s ∈ m.x, s.size ≤ 3
 hd : m.h.r.size ≤ 32
theorem nil9M (w : World) (lo hi : Nat) : Own w lo hi 9 (.slice none 0 0) (ss []) := ⟨⟨rfl, Or.inl ⟨rfl, rfl⟩⟩, fun g hg => by simp [Value.ownBlock] at hg⟩
theorem okHead {l : List ByteArray} (h : l.length ≤ 200) : okH (headOf l) = true := by
 unfold headOf
 rw [if_pos h]
 unfold okH
 have h1 : (root l).size = 32 := root_size l
 simp only [h1]
 simp
 omega
theorem draw_ok {y f t : Int} {l x : List ByteArray} {n : Int} (hl1 : 1 ≤ l.length) (hl9 : l.length ≤ 9) (hy : 0 ≤ y ∧ y < 3) (hf : 0 ≤ f ∧ f < 4) (ht : 0 ≤ t ∧ t < 2) (hk : (1 + y = 1 ∧ n = 0 ∧ x = []) ∨ (1 + y = 2 ∧ (0 ≤ n ∧ n < (l.length : Int)) ∧ x = []) ∨ (1 + y = 3 ∧ (0 ≤ n ∧ n < (l.length : Int)) ∧ x = l.drop n.toNat)) : msgOk ⟨1 + y, f, 4 + t, headOf l, n, x⟩ = true := by
 have hh : (headOf l).n = (l.length : Int) := by unfold headOf; rw [if_pos (by omega)]
 rw [is_face]
 ·unfold kindOk
  simp only
  rcases hk with ⟨e, rfl, rfl⟩ | ⟨e, hn, rfl⟩ | ⟨e, hn, rfl⟩
  ·rw [if_pos e]; simp
  ·rw [if_neg (by omega), if_pos e, hh]; simp; omega
  ·rw [if_neg (by omega), if_neg (by omega), if_pos e, hh, List.length_drop]; simp; omega
 ·simp only
  refine ⟨by omega, by omega, by omega, okHead (by omega), ?_⟩
  rcases hk with ⟨e, rfl, rfl⟩ | ⟨e, hn, rfl⟩ | ⟨e, hn, rfl⟩ <;> omega
set_option maxRecDepth 1000000 in
theorem draw13 (W0 w : World) (g : Nat) (vb : Value) (xs : List Int) (hs : Sl W0 vb (bs xs)) (hby : Byt xs) (hx : xs.length ≤ 140737488355328) (hB : Below W0.heap.size W0 w) (hg : W0.heap.size ≤ g) (hcu : Cur w g vb xs.length) :
  Calls Tryz.prog 42 #[.pointer (some ⟨g, 0, none⟩)] w fun e w' => ∃ (m : Ms) (v : Value), e = .returned (.agg #[.int .i64 m.k, .int .i64 m.f, .int .i64 m.t, .int .i64 m.h.n, .string m.h.r, .int .i64 m.n, v]) ∧ Dm 9 m ∧ msgOk m = true ∧ Own w' w.heap.size w'.heap.size 9 v (ss m.x) ∧ Drawn W0 w g vb xs w' := by
 have HSW : Hid (Sl W0 vb (bs xs)) := hs
 have hgw := hcu.lt
 clear hs
 have B0 : Hid (Apart g (g + 1) w w) := Apart.refl _ _ _
 have cu0 : Hid (Cur w (g) vb xs.length) := hcu
 have bw0 : Hid (Below W0.heap.size W0 w) := hB
 obtain ⟨i9, hi9, hz9a, hz9b, hz9c⟩ := info_parts info9t
 obtain ⟨W1, HW1, b1, y1, hS1, r_res1⟩ := Ke.l1 w #[.int .i64 0, .int .i64 0, .int .i64 0, .int .i64 0, .string ⟨#[]⟩, .int .i64 0, .slice none 0 0] 35
 have z1 := b1.size
 have B1 := Ke.h (B0.out.grow b1)
 have cu1 := Ke.h (cu0.out.keep b1)
 have bw1 := Ke.b bw0 b1
 clear cu0 bw0
 go_enter Tryz.func42, Tryz.ntmps42
 go_wp2_with fail
 rw [HW1.out]
 refine (Tr.list_any W0 W1 g _ xs HSW.out hby hx bw1.out hg cu1.out).mono ?_
 rintro e W2 ⟨v_l, l, rfl, hll, hls, o_l2, d2⟩
 obtain ⟨ao_l, L_l, cap_l, rfl, hL_l, hM_l⟩ := o_l2.form
 have o_l2 : Hid (Own W2 W1.heap.size W2.heap.size 9 (.slice ao_l L_l cap_l) (ss l)) := o_l2
 clear hL_l hM_l
 have z2 := d2.apart.size
 have B2 : Hid (Apart g (g + 1) w W2) := B1.out.trans d2.apart
 have cu2 := Ke.h d2.cur
 have bw2 := Ke.h d2.below
 have r_res2 := Ke.h (drawn_row r_res1.out d2 (by omega))
 clear r_res1
 clear cu1 bw1 d2
 obtain ⟨W3, HW3, b3, hS3, o_e3⟩ : ∃ X, Hid ((W2.alloc (.cells #[.string ⟨#[113]⟩] 9)) = X) ∧ Below W2.heap.size W2 X ∧ Hid (X.heap.size = W2.heap.size + 1) ∧ Hid (Own X W2.heap.size X.heap.size 9 (.slice (some ⟨W2.heap.size, 0, none⟩) 1 1) (ss [⟨#[113]⟩])) := ⟨_, rfl, (Below.refl _ _).alloc (Nat.le_refl _) _, (by show _ = _; simp), lit1M W2 W2.heap.size ⟨#[113]⟩ (Nat.le_refl _)⟩
 have z3 := b3.size
 have B3 := Ke.h (B2.out.grow b3)
 have r_res3 := Ke.r r_res2 b3
 have o_l3 := Ke.o o_l2 b3
 clear r_res2 o_l2
 have cu3 := Ke.h (cu2.out.keep b3)
 have bw3 := Ke.b bw2 b3
 clear cu2 bw2
 obtain ⟨all, hall⟩ : ∃ all : List ByteArray, l ++ [⟨#[113]⟩] = all := ⟨_, rfl⟩
 have hA1 : 1 ≤ all.length ∧ all.length ≤ 9 := by rw [← hall]; simp; omega
 have hAz : ∀ s ∈ all, s.size ≤ 3 := by
  rw [← hall]
  intro s hs9
  rcases List.mem_append.1 hs9 with h9 | h9
  ·exact hls s h9
  ·rw [List.mem_singleton.1 h9]; show (1 : Nat) ≤ 3; omega
 have HALL : Hid (l ++ [⟨#[113]⟩] = all) := hall
 have HAZ : Hid (∀ s ∈ all, s.size ≤ 3) := hAz
 clear hall
 have c6_4 : (ss l).length + (ss [⟨#[113]⟩]).length ≤ maxLen := by rw [ss_len, ss_len]; unfold maxLen; (try simp only [List.length_nil]); (try simp only [List.length_cons, List.length_nil]); omega
 have c7_4 : ((ss l).length + (ss [⟨#[113]⟩]).length) * 16 ≤ 140737488355328 := by rw [ss_len, ss_len]; (try simp only [List.length_nil]); (try simp only [List.length_cons, List.length_nil]); omega
 have sE4 : Hid (Sl W3 _ (ss [⟨#[113]⟩])) := o_e3.out.sl
 go_wp2_with (at_builtin; (try rw [HW3.out]); go_must (refine wpl_app _ rfl (.tmp 6) (.tmp 7) 24 rfl 9 i9 (.string ⟨#[]⟩) 16 Tryz.underlying24 hi9 hz9a hz9b hz9c rfl (W1.heap.size) _ (ss l) rfl (Own.mono o_l3.out (Nat.le_refl _) (by omega)) _ rfl (ss [⟨#[113]⟩]) sE4.out (ss_one [⟨#[113]⟩]) c6_4 c7_4 (by omega) ?_))
 intro v_all W4 o_all4 _ g4
 have o_all4 : Own W4 (W1.heap.size) W4.heap.size 9 v_all (ss all) := by show Own _ _ _ _ _ _; rw [← HALL.out, ss_app]; exact o_all4
 have o_all4h : Hid (Own W4 (W1.heap.size) W4.heap.size 9 v_all (ss all)) := o_all4
 have cu4 := Ke.h (cu3.out.groOwn o_l3.out g4 (by decide))
 have bw4 : Hid (Below W0.heap.size W0 W4) := belowGro bw3.out g4 bw3.out.size (Own.low o_l3.out (by omega))
 clear cu3 bw3
 clear o_all4
 have o_all4 := o_all4h
 clear o_all4h
 obtain ⟨ao_all, L_all, cap_all, rfl, _, _⟩ := Mem.Own.form o_all4.out
 have z4 := g4.size
 have B4 : Hid (Apart g (g + 1) w W4) := Apart.groM B3.out g4 (Own.low o_l3.out (by have := B3.out.size; omega))
 have r_res4 := Ke.n r_res3 o_l3 g4
 clear r_res3 o_l3 o_e3
 clear g4 sE4 c6_4 c7_4
 obtain rfl : L_all = all.length := by obtain ⟨a9, L9, c9, he, h1, h2⟩ := Mem.Own.form o_all4.out; injection he with _ he2 _; rw [ss_len] at h1 h2; omega
 obtain ⟨ga, rfl, hga1, hga2, curA, hcurA, _⟩ := Own.blockG o_all4.out (by omega)
 clear hcurA
 have hcap : all.length ≤ cap_all := by obtain ⟨a9, c9, he, h1, _⟩ := o_all4.out.sl; injection he with _ he2 he3; rw [ss_len] at h1; omega
 go_wp2_with fail
 refine (below_any W0 W4 g _ xs 3 (by omega) (by omega) HSW.out hby hx bw4.out hg cu4.out).mono ?_
 rintro e W5 ⟨y, rfl, hy0, hy3, d5⟩
 have z5 := d5.apart.size
 have B5 : Hid (Apart g (g + 1) w W5) := B4.out.trans d5.apart
 have cu5 := Ke.h d5.cur
 have bw5 := Ke.h d5.below
 have r_res5 := Ke.h (drawn_row r_res4.out d5 (by omega))
 have o_all5 := Ke.h (Own.drawn o_all4.out d5 (by omega) (by omega))
 clear r_res4 o_all4
 clear cu4 bw4 d5
 have wy : IntKind.i64.wrap (1 + y) = 1 + y := by rw [IntKind.wrap_i64]; omega
 go_wp2_with fail
 refine (below_any W0 W5 g _ xs 4 (by omega) (by omega) HSW.out hby hx bw5.out hg cu5.out).mono ?_
 rintro e W6 ⟨f, rfl, hf0, hf3, d6⟩
 have z6 := d6.apart.size
 have B6 : Hid (Apart g (g + 1) w W6) := B5.out.trans d6.apart
 have cu6 := Ke.h d6.cur
 have bw6 := Ke.h d6.below
 have r_res6 := Ke.h (drawn_row r_res5.out d6 (by omega))
 have o_all6 := Ke.h (Own.drawn o_all5.out d6 (by omega) (by omega))
 clear r_res5 o_all5
 clear cu5 bw5 d6
 go_wp2_with fail
 refine (below_any W0 W6 g _ xs 2 (by omega) (by omega) HSW.out hby hx bw6.out hg cu6.out).mono ?_
 rintro e W7 ⟨t, rfl, ht0, ht3, d7⟩
 have z7 := d7.apart.size
 have B7 : Hid (Apart g (g + 1) w W7) := B6.out.trans d7.apart
 have cu7 := Ke.h d7.cur
 have bw7 := Ke.h d7.below
 have r_res7 := Ke.h (drawn_row r_res6.out d7 (by omega))
 have o_all7 := Ke.h (Own.drawn o_all6.out d7 (by omega) (by omega))
 clear r_res6 o_all6
 clear cu6 bw6 d7
 have wt : IntKind.i64.wrap (4 + t) = 4 + t := by rw [IntKind.wrap_i64]; omega
 have hq := headOf_size all
 obtain ⟨M, hM⟩ : ∃ M, headOf all = M := ⟨_, rfl⟩
 have q : ∀ W v1, Sl W v1 (ss all) → _ := fun W v1 h1 => headOf_spec W v1 all h1 (by omega) (fun s hs => by have := hAz s hs; omega)
 simp only [hM] at q hq
 have HM : Hid (headOf all = M) := hM
 clear hM
 go_wp2_with fail
 refine (q W7 _ o_all7.out.sl).mono ?_
 rintro e W8 ⟨rfl, b8⟩
 have z8 := b8.size
 have B8 := Ke.h (B7.out.grow b8)
 have r_res8 := Ke.r r_res7 b8
 have o_all8 := Ke.o o_all7 b8
 clear r_res7 o_all7
 have cu8 := Ke.h (cu7.out.keep b8)
 have bw8 := Ke.b bw7 b8
 clear cu7 bw7
 obtain ⟨Kd, hK⟩ : ∃ Kd, 1 + y = Kd := ⟨_, rfl⟩
 obtain ⟨T, hT⟩ : ∃ T, 4 + t = T := ⟨_, rfl⟩
 have HK : Hid (1 + y = Kd) := hK
 have HT : Hid (4 + t = T) := hT
 have hKb : 1 ≤ Kd ∧ Kd ≤ 3 := by omega
 rw [hK] at wy
 rw [hT] at wt
 simp only [hK, hT]
 clear hK hT q
 obtain ⟨W9, HW9, b9, y9, hS9, r_m9⟩ := Ke.l1 W8 #[.int .i64 Kd, .int .i64 f, .int .i64 T, .int .i64 M.n, .string M.r, .int .i64 0, .slice none 0 0] 35
 have z9 := b9.size
 have B9 := Ke.h (B8.out.grow b9)
 have r_res9 := Ke.r r_res8 b9
 have o_all9 := Ke.o o_all8 b9
 clear r_res8 o_all8
 have cu9 := Ke.h (cu8.out.keep b9)
 have bw9 := Ke.b bw8 b9
 clear cu8 bw8
 by_cases k1 : Kd = 1
 ·have k1b : (Kd != 1) = false := by rw [k1]; rfl
  have k1c : (Kd == 1) = true := by rw [k1]; rfl
  have k3b : (Kd == 3) = false := by rw [k1]; rfl
  have HK1 : Hid (Kd = 1) := k1
  clear k1
  go_wp2_with ((try rw [HW9.out]); (first | (refine wpList_load_row rfl 35 _ rfl (W8.heap.size) rfl 35 (mc ⟨Kd, f, T, M, 0, []⟩ (.slice none 0 0)) (0, 0) _ r_m9.out Tryz.underlying35 rfl (sizeM _ _) ?_) | (refine wpl_partG rfl 35 _ _ rfl (w.heap.size) 0 (mc ⟨Kd, f, T, M, 0, []⟩ (.slice none 0 0)) rfl rfl [.int .i64 0, .int .i64 0, .int .i64 0, .int .i64 0, .string ⟨#[]⟩, .int .i64 0, .slice none 0 0] 35 r_res9.out (Nat.le_of_ble_eq_true rfl) (sizeM _ _) (oneM _ rfl) [.int .i64 Kd, .int .i64 f, .int .i64 T, .int .i64 M.n, .string M.r, .int .i64 0, .slice none 0 0] rfl ?_)))
  intro W10 r_res10 g10
  have cu10 := Ke.h (cu9.out.gro g10 (fun h9 => by injection h9 with h9; omega))
  have bw10 := Ke.i bw9 g10
  clear cu9 bw9
  have r_res10 := Ke.h r_res10
  have z10 := g10.size
  have B10 : Hid (Apart g (g + 1) w W10) := Apart.groM B9.out g10 (fun k9 h9 => by injection h9 with h9; have := B9.out.size; omega)
  have r_m10 := Ke.s r_m9 g10
  have o_all10 := Ke.t o_all9 r_res9 g10
  clear r_m9 o_all9
  clear r_res9
  go_wp2
  exact bodyPost_ret (v := .agg (mc ⟨Kd, f, T, M, 0, []⟩ (.slice none 0 0))) (results_cell_row rfl _ _ (w.heap.size) 35 _ (0, 0) _ rfl r_res10.out Tryz.underlying35 rfl (sizeM _ _)) rfl ⟨⟨Kd, f, T, M, 0, []⟩, .slice none 0 0, rfl, ⟨by simp <;> omega, by simp only; first | exact HAZ.out | (intro s hs; first | exact HAZ.out s (List.mem_of_mem_drop hs) | cases hs), hq⟩, by rw [← HK.out, ← HT.out, ← HM.out]; exact draw_ok hA1.1 hA1.2 ⟨hy0, hy3⟩ ⟨hf0, hf3⟩ ⟨ht0, ht3⟩ (Or.inl ⟨HK.out.trans HK1.out, rfl, rfl⟩), nil9M _ _ _, ⟨cu10.out, B10.out, bw10.out⟩⟩
 ·have k1c : (Kd == 1) = false := by rw [beq_eq_false_iff_ne]; exact k1
  have k1b : (Kd != 1) = true := by rw [bne, k1c]; rfl
  go_wp2_with fail
  rw [HW9.out]
  refine (below_any W0 W9 g _ xs (all.length : Int) (by omega) (by omega) HSW.out hby hx bw9.out hg cu9.out).mono ?_
  rintro e W10 ⟨n, rfl, hn0, hn9, d10⟩
  have z10 := d10.apart.size
  have B10 : Hid (Apart g (g + 1) w W10) := B9.out.trans d10.apart
  have cu10 := Ke.h d10.cur
  have bw10 := Ke.h d10.below
  have r_res10 := Ke.h (drawn_row r_res9.out d10 (by omega))
  have r_m10 := Ke.h (drawn_row r_m9.out d10 (by omega))
  have o_all10 := Ke.h (Own.drawn o_all9.out d10 (by omega) (by omega))
  clear r_res9 r_m9 o_all9
  clear cu9 bw9 d10
  go_wp2_with (refine wpl_oneG rfl 3 _ _ rfl (W8.heap.size) 5 (.int .i64 n) rfl rfl [.int .i64 Kd, .int .i64 f, .int .i64 T, .int .i64 M.n, .string M.r, .int .i64 0, .slice none 0 0] 35 r_m10.out (Nat.le_of_ble_eq_true rfl) (by kernel_rfl) rfl [.int .i64 Kd, .int .i64 f, .int .i64 T, .int .i64 M.n, .string M.r, .int .i64 n, .slice none 0 0] rfl ?_)
  intro W11 r_m11 g11
  have cu11 := Ke.h (cu10.out.gro g11 (fun h9 => by injection h9 with h9; omega))
  have bw11 := Ke.i bw10 g11
  clear cu10 bw10
  have r_m11 := Ke.h r_m11
  have z11 := g11.size
  have B11 : Hid (Apart g (g + 1) w W11) := Apart.groM B10.out g11 (fun k9 h9 => by injection h9 with h9; have := B10.out.size; omega)
  have r_res11 := Ke.s r_res10 g11
  have o_all11 := Ke.t o_all10 r_m10 g11
  have c_m11 := Ke.c r_m11
  clear r_res10 o_all10
  clear r_m10
  clear g11
  by_cases k3 : Kd = 3
  ·have k3b : (Kd == 3) = true := by rw [k3]; rfl
   have HK3 : Hid (Kd = 3) := k3
   clear k3 k1
   obtain ⟨d, rfl⟩ : ∃ d : Nat, n = (d : Int) := ⟨n.toNat, by omega⟩
   have hd9 : d < all.length := by omega
   have hcd : ¬ cap_all = d := by omega
   have hdl : d ≤ all.length := by omega
   go_wp2_with fail
   refine wp_region_held_drew (S := fun w' => w'.cell? ⟨W8.heap.size, 5, none⟩ = some (.int .i64 (d : Int))) (by kernel_rfl) (c_m11 5) (fun hHeld => ?_)
   obtain ⟨W12, HW12, b12⟩ := Ke.v W11
   have HHW12 := HW12.out
   rw [HHW12] at hHeld ⊢
   clear HHW12
   have z12 := b12.size
   have B12 := Ke.h (B11.out.grow b12)
   have r_res12 := Ke.r r_res11 b12
   have r_m12 := Ke.r r_m11 b12
   have o_all12 := Ke.o o_all11 b12
   have c_m12 := Ke.c r_m12
   clear r_res11 r_m11 c_m11 o_all11
   have cu12 := Ke.h (cu11.out.keep b12)
   have bw12 := Ke.b bw11 b12
   clear cu11 bw11
   refine Ke.q 0 ?_; try simp only [Act.put, pq]
   refine Ke.q 2 ?_; try simp only [Act.put, pq]
   refine Ke.q 3 ?_; try simp only [Act.put, pq]
   refine Ke.q 4 ?_; try simp only [Act.put, pq]
   refine Ke.q 5 ?_; try simp only [Act.put, pq]
   refine Ke.z 1 rfl (fun K hK => ?_)
   go_simp
   refine hK.out _ _ hHeld (fun hHeld => ?_)
   clear hK K
   try simp only [Act.put, pq]
   have o_z012 : Hid (Own W12 (w.heap.size) (w.heap.size) 9 (.slice none 0 0) (ss [])) := nil9M _ _ _
   refine Ke.z 6 rfl (fun K hK => ?_)
   have c6_13 : (ss []).length + (ss (all.drop d)).length ≤ maxLen := by rw [ss_len, ss_len]; unfold maxLen; (try simp only [List.length_nil]); (try rw [List.length_drop]); omega
   have c7_13 : ((ss []).length + (ss (all.drop d)).length) * 16 ≤ 140737488355328 := by rw [ss_len, ss_len]; (try simp only [List.length_nil]); (try rw [List.length_drop]); omega
   refine step_appG (by rfl) (.tmp 32) (.tmp 36) 24 (by rfl) 9 i9 (.string ⟨#[]⟩) 16 Tryz.underlying24 hi9 hz9a hz9b hz9c rfl (w.heap.size) _ (ss []) (by rfl) (Own.mono o_z012.out (Nat.le_refl _) (by omega)) _ (by rfl) (ss (all.drop d)) ((by have h9 := slBack o_all12.out.sl d (by rw [ss_len]; omega); rw [Nat.zero_add] at h9; have e9 : ss (all.drop d) = (ss all).drop d := by { unfold ss; rw [List.map_drop] }; rw [e9]; exact h9)) (ss_one (all.drop d)) c6_13 c7_13 (by omega) ?_
   intro v_p W13 o_p13 g13
   refine hK.out _ _ (cellGro hHeld g13 (Own.neRow o_z012.out r_m12.out (by decide))) (fun hHeld => ?_)
   clear hK K
   try simp only [Act.put, pq]
   have o_p13 : Own W13 (w.heap.size) W13.heap.size 9 v_p (ss (all.drop d)) := o_p13
   have o_p13h : Hid (Own W13 (w.heap.size) W13.heap.size 9 v_p (ss (all.drop d))) := o_p13
   have cu13 := Ke.h (cu12.out.groOwn o_z012.out g13 (by decide))
   have bw13 : Hid (Below W0.heap.size W0 W13) := belowGro bw12.out g13 bw12.out.size (Own.low o_z012.out (by omega))
   clear cu12 bw12
   clear o_p13
   have o_p13 := o_p13h
   clear o_p13h
   obtain ⟨ao_p, L_p, cap_p, rfl, _, _⟩ := Mem.Own.form o_p13.out
   have z13 := g13.size
   have B13 : Hid (Apart g (g + 1) w W13) := Apart.groM B12.out g13 (Own.low o_z012.out (by have := B12.out.size; omega))
   have r_res13 := Ke.n r_res12 o_z012 g13
   have r_m13 := Ke.n r_m12 o_z012 g13
   clear r_res12 r_m12 c_m12 o_all12 o_z012
   clear g13 c6_13 c7_13
   refine Ke.q 7 ?_; try simp only [Act.put, pq]
   refine Ke.z 8 rfl (fun K hK => ?_)
   rw [if_pos (by rfl)]
   refine wp_oneG 24 _ _ rfl (W8.heap.size) 6 (.slice ao_p L_p cap_p) rfl rfl [.int .i64 Kd, .int .i64 f, .int .i64 T, .int .i64 M.n, .string M.r, .int .i64 (d : Int), .slice none 0 0] 35 r_m13.out (Nat.le_of_ble_eq_true rfl) (by kernel_rfl) rfl [.int .i64 Kd, .int .i64 f, .int .i64 T, .int .i64 M.n, .string M.r, .int .i64 (d : Int), .slice ao_p L_p cap_p] rfl ?_
   intro W14 r_m14 g14
   refine hK.out _ _ (row_at r_m14 5) (fun hHeld => ?_)
   clear hK K
   try simp only [Act.put, pq]
   have cu14 := Ke.h (cu13.out.gro g14 (fun h9 => by injection h9 with h9; omega))
   have bw14 := Ke.i bw13 g14
   clear cu13 bw13
   have r_m14 := Ke.h r_m14
   have z14 := g14.size
   have B14 : Hid (Apart g (g + 1) w W14) := Apart.groM B13.out g14 (fun k9 h9 => by injection h9 with h9; have := B13.out.size; omega)
   have r_res14 := Ke.s r_res13 g14
   have o_p14 := Ke.t o_p13 r_m13 g14
   clear r_res13 o_p13
   clear r_m13
   clear g14
   refine wpAnyH_done (by kernel_rfl) ?_ _
   clear hHeld
   go_wp2_with ((first | (refine wpList_load_row rfl 35 _ rfl (W8.heap.size) rfl 35 (mc ⟨Kd, f, T, M, (d : Int), all.drop d⟩ (.slice ao_p L_p cap_p)) (0, 0) _ r_m14.out Tryz.underlying35 rfl (sizeM _ _) ?_) | (refine wpl_partG rfl 35 _ _ rfl (w.heap.size) 0 (mc ⟨Kd, f, T, M, (d : Int), all.drop d⟩ (.slice ao_p L_p cap_p)) rfl rfl [.int .i64 0, .int .i64 0, .int .i64 0, .int .i64 0, .string ⟨#[]⟩, .int .i64 0, .slice none 0 0] 35 r_res14.out (Nat.le_of_ble_eq_true rfl) (sizeM _ _) (oneM _ rfl) [.int .i64 Kd, .int .i64 f, .int .i64 T, .int .i64 M.n, .string M.r, .int .i64 (d : Int), .slice ao_p L_p cap_p] rfl ?_)))
   intro W15 r_res15 g15
   have cu15 := Ke.h (cu14.out.gro g15 (fun h9 => by injection h9 with h9; omega))
   have bw15 := Ke.i bw14 g15
   clear cu14 bw14
   have r_res15 := Ke.h r_res15
   have z15 := g15.size
   have B15 : Hid (Apart g (g + 1) w W15) := Apart.groM B14.out g15 (fun k9 h9 => by injection h9 with h9; have := B14.out.size; omega)
   have o_p15 := Ke.t o_p14 r_res14 g15
   clear r_m14 o_p14
   clear r_res14
   go_wp2
   exact bodyPost_ret (v := .agg (mc ⟨Kd, f, T, M, (d : Int), all.drop d⟩ (.slice ao_p L_p cap_p))) (results_cell_row rfl _ _ (w.heap.size) 35 _ (0, 0) _ rfl r_res15.out Tryz.underlying35 rfl (sizeM _ _)) rfl ⟨⟨Kd, f, T, M, (d : Int), all.drop d⟩, .slice ao_p L_p cap_p, rfl, ⟨by simp <;> omega, by simp only; first | exact HAZ.out | (intro s hs; first | exact HAZ.out s (List.mem_of_mem_drop hs) | cases hs), hq⟩, by rw [← HK.out, ← HT.out, ← HM.out]; exact draw_ok hA1.1 hA1.2 ⟨hy0, hy3⟩ ⟨hf0, hf3⟩ ⟨ht0, ht3⟩ (Or.inr (Or.inr ⟨HK.out.trans HK3.out, ⟨by omega, by omega⟩, rfl⟩)), Own.mono o_p15.out (by omega) (by omega), ⟨cu15.out, B15.out, bw15.out⟩⟩
  ·have k3b : (Kd == 3) = false := by rw [beq_eq_false_iff_ne]; exact k3
   have HK2 : Hid (Kd = 2) := by show _ = _; omega
   clear k3 k1
   go_wp2_with ((first | (refine wpList_load_row rfl 35 _ rfl (W8.heap.size) rfl 35 (mc ⟨Kd, f, T, M, n, []⟩ (.slice none 0 0)) (0, 0) _ r_m11.out Tryz.underlying35 rfl (sizeM _ _) ?_) | (refine wpl_partG rfl 35 _ _ rfl (w.heap.size) 0 (mc ⟨Kd, f, T, M, n, []⟩ (.slice none 0 0)) rfl rfl [.int .i64 0, .int .i64 0, .int .i64 0, .int .i64 0, .string ⟨#[]⟩, .int .i64 0, .slice none 0 0] 35 r_res11.out (Nat.le_of_ble_eq_true rfl) (sizeM _ _) (oneM _ rfl) [.int .i64 Kd, .int .i64 f, .int .i64 T, .int .i64 M.n, .string M.r, .int .i64 n, .slice none 0 0] rfl ?_)))
   intro W12 r_res12 g12
   have cu12 := Ke.h (cu11.out.gro g12 (fun h9 => by injection h9 with h9; omega))
   have bw12 := Ke.i bw11 g12
   clear cu11 bw11
   have r_res12 := Ke.h r_res12
   have z12 := g12.size
   have B12 : Hid (Apart g (g + 1) w W12) := Apart.groM B11.out g12 (fun k9 h9 => by injection h9 with h9; have := B11.out.size; omega)
   have r_m12 := Ke.s r_m11 g12
   have o_all12 := Ke.t o_all11 r_res11 g12
   have c_m12 := Ke.c r_m12
   clear r_m11 c_m11 o_all11
   clear r_res11
   go_wp2
   exact bodyPost_ret (v := .agg (mc ⟨Kd, f, T, M, n, []⟩ (.slice none 0 0))) (results_cell_row rfl _ _ (w.heap.size) 35 _ (0, 0) _ rfl r_res12.out Tryz.underlying35 rfl (sizeM _ _)) rfl ⟨⟨Kd, f, T, M, n, []⟩, .slice none 0 0, rfl, ⟨by simp <;> omega, by simp only; first | exact HAZ.out | (intro s hs; first | exact HAZ.out s (List.mem_of_mem_drop hs) | cases hs), hq⟩, by rw [← HK.out, ← HT.out, ← HM.out]; exact draw_ok hA1.1 hA1.2 ⟨hy0, hy3⟩ ⟨hf0, hf3⟩ ⟨ht0, ht3⟩ (Or.inr (Or.inl ⟨HK.out.trans HK2.out, ⟨hn0, hn9⟩, rfl⟩)), nil9M _ _ _, ⟨cu12.out, B12.out, bw12.out⟩⟩
set_option maxRecDepth 1000000 in
theorem copy13 (w : World) (v : Value) (m : Ms) (hs : Sl w v (ss m.x)) (hl : m.x.length ≤ 1000000000) :
  Calls Tryz.prog 84 #[.agg #[.int .i64 m.k, .int .i64 m.f, .int .i64 m.t, .int .i64 m.h.n, .string m.h.r, .int .i64 m.n, v]] w fun e w' => ∃ v', e = .returned (.agg #[.int .i64 m.k, .int .i64 m.f, .int .i64 m.t, .int .i64 m.h.n, .string m.h.r, .int .i64 m.n, v']) ∧ Own w' w.heap.size w'.heap.size 9 v' (ss m.x) ∧ Below w.heap.size w w' := by
 obtain ⟨k, f, t, h, n, x⟩ := m
 simp only at *
 have HS : Hid (Sl w v (ss x)) := hs
 obtain ⟨ao0, cap0, rfl, hc0⟩ := hs.form
 simp only [ss_len] at *
 clear hs
 have B0 : Hid (Below w.heap.size w w) := Below.refl _ _
 obtain ⟨i9, hi9, hz9a, hz9b, hz9c⟩ := info_parts info9t
 obtain ⟨W1, HW1, b1, y1, hS1, r_a1, r_res1⟩ := Ke.l2 w #[.int .i64 k, .int .i64 f, .int .i64 t, .int .i64 h.n, .string h.r, .int .i64 n, .slice ao0 x.length cap0] 35 #[.int .i64 0, .int .i64 0, .int .i64 0, .int .i64 0, .string ⟨#[]⟩, .int .i64 0, .slice none 0 0] 35
 have z1 := b1.size
 have B1 := Ke.b B0 b1
 go_enter Tryz.func84, Tryz.ntmps84
 obtain ⟨W2, HW2, b2, hS2, o_e2⟩ : ∃ X, Hid ((W1.alloc (.cells #[] 9)) = X) ∧ Below W1.heap.size W1 X ∧ Hid (X.heap.size = w.heap.size + 1 + 1 + 1) ∧ Hid (Own X W1.heap.size X.heap.size 9 (.slice (some ⟨w.heap.size + 1 + 1, 0, none⟩) 0 0) (ss [])) := ⟨_, rfl, (Below.refl _ _).alloc (Nat.le_refl _) _, (by show _ = _; rw [← hS1.out]; simp), (by show Own _ _ _ _ _ _; have h := emptyT W1 W1.heap.size (Nat.le_refl _); rw [hS1.out] at h ⊢; exact h)⟩
 have z2 := b2.size
 have B2 := Ke.b B1 b2
 have r_a2 := Ke.r r_a1 b2
 have r_res2 := Ke.r r_res1 b2
 clear r_a1 r_res1
 have c6_3 : (ss []).length + (ss x).length ≤ maxLen := by rw [ss_len, ss_len]; unfold maxLen; (try simp only [List.length_nil]); omega
 have c7_3 : ((ss []).length + (ss x).length) * 16 ≤ 140737488355328 := by rw [ss_len, ss_len]; (try simp only [List.length_nil]); omega
 have sE3 : Hid (Sl W2 _ (ss x)) := (HS.out.later B2.out)
 go_wp2_with (at_builtin; (try rw [HW1.out, HW2.out]); go_must (refine wpl_app _ rfl (.tmp 3) (.tmp 5) 24 rfl 9 i9 (.string ⟨#[]⟩) 16 Tryz.underlying24 hi9 hz9a hz9b hz9c rfl (W1.heap.size) _ (ss []) rfl (Own.mono o_e2.out (Nat.le_refl _) (by omega)) _ rfl (ss x) sE3.out (ss_one x) c6_3 c7_3 (by omega) ?_))
 intro v_p W3 o_p3 _ g3
 have o_p3 : Own W3 (W1.heap.size) W3.heap.size 9 v_p (ss x) := o_p3
 have o_p3h : Hid (Own W3 (W1.heap.size) W3.heap.size 9 v_p (ss x)) := o_p3
 clear o_p3
 have o_p3 := o_p3h
 clear o_p3h
 obtain ⟨ao_p, L_p, cap_p, rfl, _, _⟩ := Mem.Own.form o_p3.out
 have z3 := g3.size
 have B3 : Hid (Below w.heap.size w W3) := belowGro B2.out g3 B2.out.size (Own.low o_e2.out (by have := B2.out.size; omega))
 have r_a3 := Ke.n r_a2 o_e2 g3
 have r_res3 := Ke.n r_res2 o_e2 g3
 clear r_a2 r_res2 o_e2
 clear g3 sE3 c6_3 c7_3
 go_wp2_with (refine wpl_oneG rfl 24 _ _ rfl (w.heap.size) 6 (.slice ao_p L_p cap_p) rfl rfl [.int .i64 k, .int .i64 f, .int .i64 t, .int .i64 h.n, .string h.r, .int .i64 n, .slice ao0 x.length cap0] 35 r_a3.out (Nat.le_of_ble_eq_true rfl) (by kernel_rfl) rfl [.int .i64 k, .int .i64 f, .int .i64 t, .int .i64 h.n, .string h.r, .int .i64 n, .slice ao_p L_p cap_p] rfl ?_)
 intro W4 r_a4 g4
 have r_a4 := Ke.h r_a4
 have z4 := g4.size
 have B4 := Ke.i B3 g4
 have r_res4 := Ke.s r_res3 g4
 have o_p4 := Ke.t o_p3 r_a3 g4
 clear r_res3 o_p3
 clear r_a3
 clear g4
 go_wp2_with (first | (refine wpList_load_row rfl 35 _ rfl (w.heap.size) rfl 35 (mc ⟨k, f, t, h, n, x⟩ (.slice ao_p L_p cap_p)) (0, 0) _ r_a4.out Tryz.underlying35 rfl (sizeM _ _) ?_) | (refine wpList_store_row rfl 35 _ _ rfl (w.heap.size + 1) (mc ⟨k, f, t, h, n, x⟩ (.slice ao_p L_p cap_p)) rfl rfl 35 _ r_res4.out (sizeM _ _) rfl (oneM _ rfl) ?_))
 exact bodyPost_ret (v := .agg (mc ⟨k, f, t, h, n, x⟩ (.slice ao_p L_p cap_p))) (results_cell_row rfl _ _ (w.heap.size + 1) 35 _ (0, 0) _ rfl (setRow_heap _ _ _ _ _ (0, 0) r_res4.out) Tryz.underlying35 rfl (sizeM _ _)) rfl ⟨_, rfl, (Own.setRow o_p4.out _ (by omega)).mono (by omega) (by rw [size_setRow]; omega), below_setRow B4.out (by omega) _⟩
set_option maxRecDepth 1000000 in
theorem bend13 (W0 w : World) (g : Nat) (vb : Value) (xs : List Int) (v : Value) (m : Ms) (hsm : Sl w v (ss m.x)) (hm : Dm 9 m) (hs : Sl W0 vb (bs xs)) (hby : Byt xs) (hx : xs.length ≤ 140737488355328) (hB : Below W0.heap.size W0 w) (hg : W0.heap.size ≤ g) (hcu : Cur w g vb xs.length) :
  Calls Tryz.prog 41 #[.pointer (some ⟨g, 0, none⟩), .agg #[.int .i64 m.k, .int .i64 m.f, .int .i64 m.t, .int .i64 m.h.n, .string m.h.r, .int .i64 m.n, v]] w fun e w' => ∃ (m' : Ms) (v' : Value), e = .returned (.agg #[.int .i64 m'.k, .int .i64 m'.f, .int .i64 m'.t, .int .i64 m'.h.n, .string m'.h.r, .int .i64 m'.n, v']) ∧ Dm 10 m' ∧ Own w' w.heap.size w'.heap.size 9 v' (ss m'.x) ∧ Drawn W0 w g vb xs w' := by
 obtain ⟨k, f, t, h, n, x⟩ := m
 obtain ⟨hlen, hsz, hhd⟩ := hm
 simp only at *
 have HSM : Hid (Sl w v (ss x)) := hsm
 have HSZ : Hid (∀ s ∈ x, s.size ≤ 3) := hsz
 obtain ⟨ao0, cap0, rfl, hc0⟩ := hsm.form
 simp only [ss_len] at *
 clear hsm hsz
 have HSW : Hid (Sl W0 vb (bs xs)) := hs
 have hgw := hcu.lt
 clear hs
 have B0 : Hid (Apart g (g + 1) w w) := Apart.refl _ _ _
 have cu0 : Hid (Cur w (g) vb xs.length) := hcu
 have bw0 : Hid (Below W0.heap.size W0 w) := hB
 obtain ⟨i9, hi9, hz9a, hz9b, hz9c⟩ := info_parts info9t
 obtain ⟨W1, HW1, b1, y1, hS1, r_a1, r_res1⟩ := Ke.l2 w #[.int .i64 k, .int .i64 f, .int .i64 t, .int .i64 h.n, .string h.r, .int .i64 n, .slice ao0 x.length cap0] 35 #[.int .i64 0, .int .i64 0, .int .i64 0, .int .i64 0, .string ⟨#[]⟩, .int .i64 0, .slice none 0 0] 35
 have z1 := b1.size
 have B1 := Ke.h (B0.out.grow b1)
 have cu1 := Ke.h (cu0.out.keep b1)
 have bw1 := Ke.b bw0 b1
 clear cu0 bw0
 go_enter Tryz.func41, Tryz.ntmps41
 have f_sm1 : Hid (Sl W1 (.slice ao0 x.length cap0) (ss x)) := HSM.out.later b1
 go_wp2_with fail
 rw [HW1.out]
 refine (copy13 W1 _ ⟨k, f, t, h, n, x⟩ f_sm1.out (by simp only; omega)).mono ?_
 rintro e W2 ⟨v_p, rfl, o_p2, b2⟩
 obtain ⟨ao_p, L_p, cap_p, rfl, hL_p, hM_p⟩ := o_p2.form
 have o_p2 : Hid (Own W2 W1.heap.size W2.heap.size 9 (.slice ao_p L_p cap_p) (ss x)) := o_p2
 clear hL_p hM_p
 have z2 := b2.size
 have B2 := Ke.h (B1.out.grow b2)
 have r_a2 := Ke.r r_a1 b2
 have r_res2 := Ke.r r_res1 b2
 clear r_a1 r_res1
 clear f_sm1
 have cu2 := Ke.h (cu1.out.keep b2)
 have bw2 := Ke.b bw1 b2
 clear cu1 bw1
 go_wp2_with (refine wpl_partG rfl 35 _ _ rfl (w.heap.size) 0 (mc ⟨k, f, t, h, n, x⟩ (.slice ao_p L_p cap_p)) rfl rfl [.int .i64 k, .int .i64 f, .int .i64 t, .int .i64 h.n, .string h.r, .int .i64 n, .slice ao0 x.length cap0] 35 r_a2.out (Nat.le_of_ble_eq_true rfl) (sizeM _ _) (oneM _ rfl) [.int .i64 k, .int .i64 f, .int .i64 t, .int .i64 h.n, .string h.r, .int .i64 n, .slice ao_p L_p cap_p] rfl ?_)
 intro W3 r_a3 g3
 have cu3 := Ke.h (cu2.out.gro g3 (fun h9 => by injection h9 with h9; omega))
 have bw3 := Ke.i bw2 g3
 clear cu2 bw2
 have r_a3 := Ke.h r_a3
 have z3 := g3.size
 have B3 : Hid (Apart g (g + 1) w W3) := Apart.groM B2.out g3 (fun k9 h9 => by injection h9 with h9; have := B2.out.size; omega)
 have r_res3 := Ke.s r_res2 g3
 have o_p3 := Ke.t o_p2 r_a2 g3
 clear r_res2 o_p2
 clear r_a2
 clear g3
 go_wp2_with fail
 refine (below_any W0 W3 g _ xs 8 (by omega) (by omega) HSW.out hby hx bw3.out hg cu3.out).mono ?_
 rintro e W4 ⟨y, rfl, hy0, hy8, d4⟩
 have z4 := d4.apart.size
 have B4 : Hid (Apart g (g + 1) w W4) := B3.out.trans d4.apart
 have cu4 := Ke.h d4.cur
 have bw4 := Ke.h d4.below
 have r_a4 := Ke.h (drawn_row r_a3.out d4 (by omega))
 have r_res4 := Ke.h (drawn_row r_res3.out d4 (by omega))
 have o_p4 := Ke.h (Own.drawn o_p3.out d4 (by omega) (by omega))
 have c_a4 := Ke.c r_a4
 clear r_a3 r_res3 o_p3
 clear cu3 bw3 d4
 by_cases y0 : y = 0
 ·subst y0
  go_wp2_with fail
  refine (below_any W0 W4 g _ xs 5 (by omega) (by omega) HSW.out hby hx bw4.out hg cu4.out).mono ?_
  rintro e W5 ⟨z, rfl, hz0, hz5, d5⟩
  have z5 := d5.apart.size
  have B5 : Hid (Apart g (g + 1) w W5) := B4.out.trans d5.apart
  have cu5 := Ke.h d5.cur
  have bw5 := Ke.h d5.below
  have r_a5 := Ke.h (drawn_row r_a4.out d5 (by omega))
  have r_res5 := Ke.h (drawn_row r_res4.out d5 (by omega))
  have o_p5 := Ke.h (Own.drawn o_p4.out d5 (by omega) (by omega))
  clear r_a4 c_a4 r_res4 o_p4
  clear cu4 bw4 d5
  go_wp2_with (refine wpl_oneG rfl 3 _ _ rfl (w.heap.size) 0 (.int .i64 z) rfl rfl [.int .i64 k, .int .i64 f, .int .i64 t, .int .i64 h.n, .string h.r, .int .i64 n, .slice ao_p L_p cap_p] 35 r_a5.out (Nat.le_of_ble_eq_true rfl) (by kernel_rfl) rfl [.int .i64 z, .int .i64 f, .int .i64 t, .int .i64 h.n, .string h.r, .int .i64 n, .slice ao_p L_p cap_p] rfl ?_)
  intro W6 r_a6 g6
  have cu6 := Ke.h (cu5.out.gro g6 (fun h9 => by injection h9 with h9; omega))
  have bw6 := Ke.i bw5 g6
  clear cu5 bw5
  have r_a6 := Ke.h r_a6
  have z6 := g6.size
  have B6 : Hid (Apart g (g + 1) w W6) := Apart.groM B5.out g6 (fun k9 h9 => by injection h9 with h9; have := B5.out.size; omega)
  have r_res6 := Ke.s r_res5 g6
  have o_p6 := Ke.t o_p5 r_a5 g6
  clear r_res5 o_p5
  clear r_a5
  clear g6
  go_wp2_with (first | (refine wpList_load_row rfl 35 _ rfl (w.heap.size) rfl 35 (mc ⟨z, f, t, h, n, x⟩ (.slice ao_p L_p cap_p)) (0, 0) _ r_a6.out Tryz.underlying35 rfl (sizeM _ _) ?_) | (refine wpl_partG rfl 35 _ _ rfl (w.heap.size + 1) 0 (mc ⟨z, f, t, h, n, x⟩ (.slice ao_p L_p cap_p)) rfl rfl [.int .i64 0, .int .i64 0, .int .i64 0, .int .i64 0, .string ⟨#[]⟩, .int .i64 0, .slice none 0 0] 35 r_res6.out (Nat.le_of_ble_eq_true rfl) (sizeM _ _) (oneM _ rfl) [.int .i64 z, .int .i64 f, .int .i64 t, .int .i64 h.n, .string h.r, .int .i64 n, .slice ao_p L_p cap_p] rfl ?_))
  intro W7 r_res7 g7
  have cu7 := Ke.h (cu6.out.gro g7 (fun h9 => by injection h9 with h9; omega))
  have bw7 := Ke.i bw6 g7
  clear cu6 bw6
  have r_res7 := Ke.h r_res7
  have z7 := g7.size
  have B7 : Hid (Apart g (g + 1) w W7) := Apart.groM B6.out g7 (fun k9 h9 => by injection h9 with h9; have := B6.out.size; omega)
  have r_a7 := Ke.s r_a6 g7
  have o_p7 := Ke.t o_p6 r_res6 g7
  clear r_a6 o_p6
  clear r_res6
  go_wp2
  exact bodyPost_ret (v := .agg (mc ⟨z, f, t, h, n, x⟩ (.slice ao_p L_p cap_p))) (results_cell_row rfl _ _ (w.heap.size + 1) 35 _ (0, 0) _ rfl r_res7.out Tryz.underlying35 rfl (sizeM _ _)) rfl ⟨⟨z, f, t, h, n, x⟩, .slice ao_p L_p cap_p, rfl, ⟨by simp only; omega, HSZ.out, hhd⟩, Own.mono o_p7.out (by omega) (by omega), ⟨cu7.out, B7.out, bw7.out⟩⟩
 ·have y0b : (y == 0) = false := by rw [beq_eq_false_iff_ne]; exact y0
  by_cases y1 : y = 1
  ·subst y1
   have kx1 := c_a4
   obtain ⟨W5, HW5, b5, y5, hS5, r_li5⟩ := Ke.l1 W4 #[.int .i64 f, .int .i64 (-1), .int .i64 21, .int .i64 20] 3
   have z5 := b5.size
   have B5 := Ke.h (B4.out.grow b5)
   have r_a5 := Ke.r r_a4 b5
   have r_res5 := Ke.r r_res4 b5
   have o_p5 := Ke.o o_p4 b5
   clear r_a4 c_a4 r_res4 o_p4
   have cu5 := Ke.h (cu4.out.keep b5)
   have bw5 := Ke.b bw4 b5
   clear cu4 bw4
   go_wp2_with fail
   rw [HW5.out]
   refine (int_any W0 W5 g _ xs (W4.heap.size) [f, -1, 21, 20] r_li5.out (by omega) (by simp) (by simp) HSW.out hby hx bw5.out hg cu5.out).mono ?_
   rintro e W6 ⟨i, rfl, him, d6⟩
   have z6 := d6.apart.size
   have B6 : Hid (Apart g (g + 1) w W6) := B5.out.trans d6.apart
   have cu6 := Ke.h d6.cur
   have bw6 := Ke.h d6.below
   have r_a6 := Ke.h (drawn_row r_a5.out d6 (by omega))
   have r_res6 := Ke.h (drawn_row r_res5.out d6 (by omega))
   have o_p6 := Ke.h (Own.drawn o_p5.out d6 (by omega) (by omega))
   clear r_a5 r_res5 r_li5 o_p5
   clear cu5 bw5 d6
   go_wp2_with (refine wpl_oneG rfl 3 _ _ rfl (w.heap.size) 2 (.int .i64 i) rfl rfl [.int .i64 k, .int .i64 f, .int .i64 t, .int .i64 h.n, .string h.r, .int .i64 n, .slice ao_p L_p cap_p] 35 r_a6.out (Nat.le_of_ble_eq_true rfl) (by kernel_rfl) rfl [.int .i64 k, .int .i64 f, .int .i64 i, .int .i64 h.n, .string h.r, .int .i64 n, .slice ao_p L_p cap_p] rfl ?_)
   intro W7 r_a7 g7
   have cu7 := Ke.h (cu6.out.gro g7 (fun h9 => by injection h9 with h9; omega))
   have bw7 := Ke.i bw6 g7
   clear cu6 bw6
   have r_a7 := Ke.h r_a7
   have z7 := g7.size
   have B7 : Hid (Apart g (g + 1) w W7) := Apart.groM B6.out g7 (fun k9 h9 => by injection h9 with h9; have := B6.out.size; omega)
   have r_res7 := Ke.s r_res6 g7
   have o_p7 := Ke.t o_p6 r_a6 g7
   clear r_res6 o_p6
   clear r_a6
   clear g7
   go_wp2_with (first | (refine wpList_load_row rfl 35 _ rfl (w.heap.size) rfl 35 (mc ⟨k, f, i, h, n, x⟩ (.slice ao_p L_p cap_p)) (0, 0) _ r_a7.out Tryz.underlying35 rfl (sizeM _ _) ?_) | (refine wpl_partG rfl 35 _ _ rfl (w.heap.size + 1) 0 (mc ⟨k, f, i, h, n, x⟩ (.slice ao_p L_p cap_p)) rfl rfl [.int .i64 0, .int .i64 0, .int .i64 0, .int .i64 0, .string ⟨#[]⟩, .int .i64 0, .slice none 0 0] 35 r_res7.out (Nat.le_of_ble_eq_true rfl) (sizeM _ _) (oneM _ rfl) [.int .i64 k, .int .i64 f, .int .i64 i, .int .i64 h.n, .string h.r, .int .i64 n, .slice ao_p L_p cap_p] rfl ?_))
   intro W8 r_res8 g8
   have cu8 := Ke.h (cu7.out.gro g8 (fun h9 => by injection h9 with h9; omega))
   have bw8 := Ke.i bw7 g8
   clear cu7 bw7
   have r_res8 := Ke.h r_res8
   have z8 := g8.size
   have B8 : Hid (Apart g (g + 1) w W8) := Apart.groM B7.out g8 (fun k9 h9 => by injection h9 with h9; have := B7.out.size; omega)
   have o_p8 := Ke.t o_p7 r_res7 g8
   clear r_a7 o_p7
   clear r_res7
   go_wp2
   exact bodyPost_ret (v := .agg (mc ⟨k, f, i, h, n, x⟩ (.slice ao_p L_p cap_p))) (results_cell_row rfl _ _ (w.heap.size + 1) 35 _ (0, 0) _ rfl r_res8.out Tryz.underlying35 rfl (sizeM _ _)) rfl ⟨⟨k, f, i, h, n, x⟩, .slice ao_p L_p cap_p, rfl, ⟨by simp only; omega, HSZ.out, hhd⟩, Own.mono o_p8.out (by omega) (by omega), ⟨cu8.out, B8.out, bw8.out⟩⟩
  ·have y1b : (y == 1) = false := by rw [beq_eq_false_iff_ne]; exact y1
   by_cases y2 : y = 2
   ·subst y2
    have kx3 := c_a4
    obtain ⟨W5, HW5, b5, y5, hS5, r_li5⟩ := Ke.l1 W4 #[.int .i64 (-1), .int .i64 h.n, .int .i64 0] 3
    have z5 := b5.size
    have B5 := Ke.h (B4.out.grow b5)
    have r_a5 := Ke.r r_a4 b5
    have r_res5 := Ke.r r_res4 b5
    have o_p5 := Ke.o o_p4 b5
    clear r_a4 c_a4 r_res4 o_p4
    have cu5 := Ke.h (cu4.out.keep b5)
    have bw5 := Ke.b bw4 b5
    clear cu4 bw4
    go_wp2_with fail
    rw [HW5.out]
    refine (int_any W0 W5 g _ xs (W4.heap.size) [-1, h.n, 0] r_li5.out (by omega) (by simp) (by simp) HSW.out hby hx bw5.out hg cu5.out).mono ?_
    rintro e W6 ⟨i, rfl, him, d6⟩
    have z6 := d6.apart.size
    have B6 : Hid (Apart g (g + 1) w W6) := B5.out.trans d6.apart
    have cu6 := Ke.h d6.cur
    have bw6 := Ke.h d6.below
    have r_a6 := Ke.h (drawn_row r_a5.out d6 (by omega))
    have r_res6 := Ke.h (drawn_row r_res5.out d6 (by omega))
    have o_p6 := Ke.h (Own.drawn o_p5.out d6 (by omega) (by omega))
    clear r_a5 r_res5 r_li5 o_p5
    clear cu5 bw5 d6
    go_wp2_with (refine wpl_oneG rfl 3 _ _ rfl (w.heap.size) 5 (.int .i64 i) rfl rfl [.int .i64 k, .int .i64 f, .int .i64 t, .int .i64 h.n, .string h.r, .int .i64 n, .slice ao_p L_p cap_p] 35 r_a6.out (Nat.le_of_ble_eq_true rfl) (by kernel_rfl) rfl [.int .i64 k, .int .i64 f, .int .i64 t, .int .i64 h.n, .string h.r, .int .i64 i, .slice ao_p L_p cap_p] rfl ?_)
    intro W7 r_a7 g7
    have cu7 := Ke.h (cu6.out.gro g7 (fun h9 => by injection h9 with h9; omega))
    have bw7 := Ke.i bw6 g7
    clear cu6 bw6
    have r_a7 := Ke.h r_a7
    have z7 := g7.size
    have B7 : Hid (Apart g (g + 1) w W7) := Apart.groM B6.out g7 (fun k9 h9 => by injection h9 with h9; have := B6.out.size; omega)
    have r_res7 := Ke.s r_res6 g7
    have o_p7 := Ke.t o_p6 r_a6 g7
    clear r_res6 o_p6
    clear r_a6
    clear g7
    go_wp2_with (first | (refine wpList_load_row rfl 35 _ rfl (w.heap.size) rfl 35 (mc ⟨k, f, t, h, i, x⟩ (.slice ao_p L_p cap_p)) (0, 0) _ r_a7.out Tryz.underlying35 rfl (sizeM _ _) ?_) | (refine wpl_partG rfl 35 _ _ rfl (w.heap.size + 1) 0 (mc ⟨k, f, t, h, i, x⟩ (.slice ao_p L_p cap_p)) rfl rfl [.int .i64 0, .int .i64 0, .int .i64 0, .int .i64 0, .string ⟨#[]⟩, .int .i64 0, .slice none 0 0] 35 r_res7.out (Nat.le_of_ble_eq_true rfl) (sizeM _ _) (oneM _ rfl) [.int .i64 k, .int .i64 f, .int .i64 t, .int .i64 h.n, .string h.r, .int .i64 i, .slice ao_p L_p cap_p] rfl ?_))
    intro W8 r_res8 g8
    have cu8 := Ke.h (cu7.out.gro g8 (fun h9 => by injection h9 with h9; omega))
    have bw8 := Ke.i bw7 g8
    clear cu7 bw7
    have r_res8 := Ke.h r_res8
    have z8 := g8.size
    have B8 : Hid (Apart g (g + 1) w W8) := Apart.groM B7.out g8 (fun k9 h9 => by injection h9 with h9; have := B7.out.size; omega)
    have o_p8 := Ke.t o_p7 r_res7 g8
    clear r_a7 o_p7
    clear r_res7
    go_wp2
    exact bodyPost_ret (v := .agg (mc ⟨k, f, t, h, i, x⟩ (.slice ao_p L_p cap_p))) (results_cell_row rfl _ _ (w.heap.size + 1) 35 _ (0, 0) _ rfl r_res8.out Tryz.underlying35 rfl (sizeM _ _)) rfl ⟨⟨k, f, t, h, i, x⟩, .slice ao_p L_p cap_p, rfl, ⟨by simp only; omega, HSZ.out, hhd⟩, Own.mono o_p8.out (by omega) (by omega), ⟨cu8.out, B8.out, bw8.out⟩⟩
   ·have y2b : (y == 2) = false := by rw [beq_eq_false_iff_ne]; exact y2
    by_cases y3 : y = 3
    ·subst y3
     have kx6 := c_a4
     obtain ⟨W5, HW5, b5, hS5, o_e5⟩ : ∃ X, Hid ((W4.alloc (.cells #[.string ⟨#[120]⟩] 9)) = X) ∧ Below W4.heap.size W4 X ∧ Hid (X.heap.size = W4.heap.size + 1) ∧ Hid (Own X W4.heap.size X.heap.size 9 (.slice (some ⟨W4.heap.size, 0, none⟩) 1 1) (ss [⟨#[120]⟩])) := ⟨_, rfl, (Below.refl _ _).alloc (Nat.le_refl _) _, (by show _ = _; simp), lit1M W4 W4.heap.size ⟨#[120]⟩ (Nat.le_refl _)⟩
     have z5 := b5.size
     have B5 := Ke.h (B4.out.grow b5)
     have r_a5 := Ke.r r_a4 b5
     have r_res5 := Ke.r r_res4 b5
     have o_p5 := Ke.o o_p4 b5
     clear r_a4 c_a4 r_res4 o_p4
     have cu5 := Ke.h (cu4.out.keep b5)
     have bw5 := Ke.b bw4 b5
     clear cu4 bw4
     have c6_6 : (ss x).length + (ss [⟨#[120]⟩]).length ≤ maxLen := by rw [ss_len, ss_len]; unfold maxLen; (try simp only [List.length_nil]); (try simp only [List.length_cons, List.length_nil]); omega
     have c7_6 : ((ss x).length + (ss [⟨#[120]⟩]).length) * 16 ≤ 140737488355328 := by rw [ss_len, ss_len]; (try simp only [List.length_nil]); (try simp only [List.length_cons, List.length_nil]); omega
     have sE6 : Hid (Sl W5 _ (ss [⟨#[120]⟩])) := o_e5.out.sl
     go_wp2_with (at_builtin; (try rw [HW5.out]); go_must (refine wpl_app _ rfl (.tmp 34) (.tmp 35) 24 rfl 9 i9 (.string ⟨#[]⟩) 16 Tryz.underlying24 hi9 hz9a hz9b hz9c rfl (W1.heap.size) _ (ss x) rfl (Own.mono o_p5.out (Nat.le_refl _) (by omega)) _ rfl (ss [⟨#[120]⟩]) sE6.out (ss_one [⟨#[120]⟩]) c6_6 c7_6 (by omega) ?_))
     intro v_z W6 o_z6 _ g6
     have o_z6 : Own W6 (W1.heap.size) W6.heap.size 9 v_z (ss (x ++ [⟨#[120]⟩])) := by show Own _ _ _ _ _ _; rw [ss_app]; exact o_z6
     have o_z6h : Hid (Own W6 (W1.heap.size) W6.heap.size 9 v_z (ss (x ++ [⟨#[120]⟩]))) := o_z6
     have cu6 := Ke.h (cu5.out.groOwn o_p5.out g6 (by decide))
     have bw6 : Hid (Below W0.heap.size W0 W6) := belowGro bw5.out g6 bw5.out.size (Own.low o_p5.out (by omega))
     clear cu5 bw5
     clear o_z6
     have o_z6 := o_z6h
     clear o_z6h
     obtain ⟨ao_z, L_z, cap_z, rfl, _, _⟩ := Mem.Own.form o_z6.out
     have z6 := g6.size
     have B6 : Hid (Apart g (g + 1) w W6) := Apart.groM B5.out g6 (Own.low o_p5.out (by have := B5.out.size; omega))
     have r_a6 := Ke.n r_a5 o_p5 g6
     have r_res6 := Ke.n r_res5 o_p5 g6
     clear r_a5 r_res5 o_p5 o_e5
     clear g6 sE6 c6_6 c7_6
     go_wp2_with (refine wpl_oneG rfl 24 _ _ rfl (w.heap.size) 6 (.slice ao_z L_z cap_z) rfl rfl [.int .i64 k, .int .i64 f, .int .i64 t, .int .i64 h.n, .string h.r, .int .i64 n, .slice ao_p L_p cap_p] 35 r_a6.out (Nat.le_of_ble_eq_true rfl) (by kernel_rfl) rfl [.int .i64 k, .int .i64 f, .int .i64 t, .int .i64 h.n, .string h.r, .int .i64 n, .slice ao_z L_z cap_z] rfl ?_)
     intro W7 r_a7 g7
     have cu7 := Ke.h (cu6.out.gro g7 (fun h9 => by injection h9 with h9; omega))
     have bw7 := Ke.i bw6 g7
     clear cu6 bw6
     have r_a7 := Ke.h r_a7
     have z7 := g7.size
     have B7 : Hid (Apart g (g + 1) w W7) := Apart.groM B6.out g7 (fun k9 h9 => by injection h9 with h9; have := B6.out.size; omega)
     have r_res7 := Ke.s r_res6 g7
     have o_z7 := Ke.t o_z6 r_a6 g7
     clear r_res6 o_z6
     clear r_a6
     clear g7
     go_wp2_with (first | (refine wpList_load_row rfl 35 _ rfl (w.heap.size) rfl 35 (mc ⟨k, f, t, h, n, x ++ [⟨#[120]⟩]⟩ (.slice ao_z L_z cap_z)) (0, 0) _ r_a7.out Tryz.underlying35 rfl (sizeM _ _) ?_) | (refine wpl_partG rfl 35 _ _ rfl (w.heap.size + 1) 0 (mc ⟨k, f, t, h, n, x ++ [⟨#[120]⟩]⟩ (.slice ao_z L_z cap_z)) rfl rfl [.int .i64 0, .int .i64 0, .int .i64 0, .int .i64 0, .string ⟨#[]⟩, .int .i64 0, .slice none 0 0] 35 r_res7.out (Nat.le_of_ble_eq_true rfl) (sizeM _ _) (oneM _ rfl) [.int .i64 k, .int .i64 f, .int .i64 t, .int .i64 h.n, .string h.r, .int .i64 n, .slice ao_z L_z cap_z] rfl ?_))
     intro W8 r_res8 g8
     have cu8 := Ke.h (cu7.out.gro g8 (fun h9 => by injection h9 with h9; omega))
     have bw8 := Ke.i bw7 g8
     clear cu7 bw7
     have r_res8 := Ke.h r_res8
     have z8 := g8.size
     have B8 : Hid (Apart g (g + 1) w W8) := Apart.groM B7.out g8 (fun k9 h9 => by injection h9 with h9; have := B7.out.size; omega)
     have o_z8 := Ke.t o_z7 r_res7 g8
     clear r_a7 o_z7
     clear r_res7
     go_wp2
     exact bodyPost_ret (v := .agg (mc ⟨k, f, t, h, n, x ++ [⟨#[120]⟩]⟩ (.slice ao_z L_z cap_z))) (results_cell_row rfl _ _ (w.heap.size + 1) 35 _ (0, 0) _ rfl r_res8.out Tryz.underlying35 rfl (sizeM _ _)) rfl ⟨⟨k, f, t, h, n, x ++ [⟨#[120]⟩]⟩, .slice ao_z L_z cap_z, rfl, ⟨by simp <;> omega, by intro s hs9; rcases List.mem_append.1 hs9 with h9 | h9; exact HSZ.out s h9; rw [List.mem_singleton.1 h9]; show (1 : Nat) ≤ 3; omega, hhd⟩, Own.mono o_z8.out (by omega) (by omega), ⟨cu8.out, B8.out, bw8.out⟩⟩
    ·have y3b : (y == 3) = false := by rw [beq_eq_false_iff_ne]; exact y3
     by_cases y4 : y = 4
     ·subst y4
      obtain ⟨W5, HW5, b5, y5, hS5, r_ls5⟩ := Ke.l1 W4 #[.string ⟨#[]⟩, .string ⟨#[120]⟩] 9
      have z5 := b5.size
      have B5 := Ke.h (B4.out.grow b5)
      have r_a5 := Ke.r r_a4 b5
      have r_res5 := Ke.r r_res4 b5
      have o_p5 := Ke.o o_p4 b5
      clear r_a4 c_a4 r_res4 o_p4
      have cu5 := Ke.h (cu4.out.keep b5)
      have bw5 := Ke.b bw4 b5
      clear cu4 bw4
      go_wp2_with fail
      rw [HW5.out]
      refine (str_any W0 W5 g _ xs (W4.heap.size) [⟨#[]⟩, ⟨#[120]⟩] r_ls5.out (by omega) (by simp) (by simp) HSW.out hby hx bw5.out hg cu5.out).mono ?_
      rintro e W6 ⟨s0, rfl, hsm, d6⟩
      have z6 := d6.apart.size
      have B6 : Hid (Apart g (g + 1) w W6) := B5.out.trans d6.apart
      have cu6 := Ke.h d6.cur
      have bw6 := Ke.h d6.below
      have r_a6 := Ke.h (drawn_row r_a5.out d6 (by omega))
      have r_res6 := Ke.h (drawn_row r_res5.out d6 (by omega))
      have o_p6 := Ke.h (Own.drawn o_p5.out d6 (by omega) (by omega))
      clear r_a5 r_res5 r_ls5 o_p5
      clear cu5 bw5 d6
      have hs0 : s0.size ≤ 32 := by
       simp at hsm
       rcases hsm with rfl | rfl
       ·show (0 : Nat) ≤ 32; omega
       ·show (1 : Nat) ≤ 32; omega
      go_wp2_with (refine wpl_oneG rfl 9 _ _ rfl (w.heap.size) 4 (.string s0) rfl rfl [.int .i64 k, .int .i64 f, .int .i64 t, .int .i64 h.n, .string h.r, .int .i64 n, .slice ao_p L_p cap_p] 35 r_a6.out (Nat.le_of_ble_eq_true rfl) (by kernel_rfl) rfl [.int .i64 k, .int .i64 f, .int .i64 t, .int .i64 h.n, .string s0, .int .i64 n, .slice ao_p L_p cap_p] rfl ?_)
      intro W7 r_a7 g7
      have cu7 := Ke.h (cu6.out.gro g7 (fun h9 => by injection h9 with h9; omega))
      have bw7 := Ke.i bw6 g7
      clear cu6 bw6
      have r_a7 := Ke.h r_a7
      have z7 := g7.size
      have B7 : Hid (Apart g (g + 1) w W7) := Apart.groM B6.out g7 (fun k9 h9 => by injection h9 with h9; have := B6.out.size; omega)
      have r_res7 := Ke.s r_res6 g7
      have o_p7 := Ke.t o_p6 r_a6 g7
      clear r_res6 o_p6
      clear r_a6
      clear g7
      go_wp2_with (first | (refine wpList_load_row rfl 35 _ rfl (w.heap.size) rfl 35 (mc ⟨k, f, t, ⟨h.n, s0⟩, n, x⟩ (.slice ao_p L_p cap_p)) (0, 0) _ r_a7.out Tryz.underlying35 rfl (sizeM _ _) ?_) | (refine wpl_partG rfl 35 _ _ rfl (w.heap.size + 1) 0 (mc ⟨k, f, t, ⟨h.n, s0⟩, n, x⟩ (.slice ao_p L_p cap_p)) rfl rfl [.int .i64 0, .int .i64 0, .int .i64 0, .int .i64 0, .string ⟨#[]⟩, .int .i64 0, .slice none 0 0] 35 r_res7.out (Nat.le_of_ble_eq_true rfl) (sizeM _ _) (oneM _ rfl) [.int .i64 k, .int .i64 f, .int .i64 t, .int .i64 h.n, .string s0, .int .i64 n, .slice ao_p L_p cap_p] rfl ?_))
      intro W8 r_res8 g8
      have cu8 := Ke.h (cu7.out.gro g8 (fun h9 => by injection h9 with h9; omega))
      have bw8 := Ke.i bw7 g8
      clear cu7 bw7
      have r_res8 := Ke.h r_res8
      have z8 := g8.size
      have B8 : Hid (Apart g (g + 1) w W8) := Apart.groM B7.out g8 (fun k9 h9 => by injection h9 with h9; have := B7.out.size; omega)
      have o_p8 := Ke.t o_p7 r_res7 g8
      clear r_a7 o_p7
      clear r_res7
      go_wp2
      exact bodyPost_ret (v := .agg (mc ⟨k, f, t, ⟨h.n, s0⟩, n, x⟩ (.slice ao_p L_p cap_p))) (results_cell_row rfl _ _ (w.heap.size + 1) 35 _ (0, 0) _ rfl r_res8.out Tryz.underlying35 rfl (sizeM _ _)) rfl ⟨⟨k, f, t, ⟨h.n, s0⟩, n, x⟩, .slice ao_p L_p cap_p, rfl, ⟨by simp only; omega, HSZ.out, hs0⟩, Own.mono o_p8.out (by omega) (by omega), ⟨cu8.out, B8.out, bw8.out⟩⟩
     ·have y4b : (y == 4) = false := by rw [beq_eq_false_iff_ne]; exact y4
      by_cases y5 : y = 5
      ·subst y5
       obtain ⟨W5, HW5, b5, y5, hS5, r_li5⟩ := Ke.l1 W4 #[.int .i64 (-1), .int .i64 201, .int .i64 1] 3
       have z5 := b5.size
       have B5 := Ke.h (B4.out.grow b5)
       have r_a5 := Ke.r r_a4 b5
       have r_res5 := Ke.r r_res4 b5
       have o_p5 := Ke.o o_p4 b5
       clear r_a4 c_a4 r_res4 o_p4
       have cu5 := Ke.h (cu4.out.keep b5)
       have bw5 := Ke.b bw4 b5
       clear cu4 bw4
       go_wp2_with fail
       rw [HW5.out]
       refine (int_any W0 W5 g _ xs (W4.heap.size) [-1, 201, 1] r_li5.out (by omega) (by simp) (by simp) HSW.out hby hx bw5.out hg cu5.out).mono ?_
       rintro e W6 ⟨i, rfl, him, d6⟩
       have z6 := d6.apart.size
       have B6 : Hid (Apart g (g + 1) w W6) := B5.out.trans d6.apart
       have cu6 := Ke.h d6.cur
       have bw6 := Ke.h d6.below
       have r_a6 := Ke.h (drawn_row r_a5.out d6 (by omega))
       have r_res6 := Ke.h (drawn_row r_res5.out d6 (by omega))
       have o_p6 := Ke.h (Own.drawn o_p5.out d6 (by omega) (by omega))
       clear r_a5 r_res5 r_li5 o_p5
       clear cu5 bw5 d6
       go_wp2_with (refine wpl_oneG rfl 3 _ _ rfl (w.heap.size) 3 (.int .i64 i) rfl rfl [.int .i64 k, .int .i64 f, .int .i64 t, .int .i64 h.n, .string h.r, .int .i64 n, .slice ao_p L_p cap_p] 35 r_a6.out (Nat.le_of_ble_eq_true rfl) (by kernel_rfl) rfl [.int .i64 k, .int .i64 f, .int .i64 t, .int .i64 i, .string h.r, .int .i64 n, .slice ao_p L_p cap_p] rfl ?_)
       intro W7 r_a7 g7
       have cu7 := Ke.h (cu6.out.gro g7 (fun h9 => by injection h9 with h9; omega))
       have bw7 := Ke.i bw6 g7
       clear cu6 bw6
       have r_a7 := Ke.h r_a7
       have z7 := g7.size
       have B7 : Hid (Apart g (g + 1) w W7) := Apart.groM B6.out g7 (fun k9 h9 => by injection h9 with h9; have := B6.out.size; omega)
       have r_res7 := Ke.s r_res6 g7
       have o_p7 := Ke.t o_p6 r_a6 g7
       clear r_res6 o_p6
       clear r_a6
       clear g7
       go_wp2_with (first | (refine wpList_load_row rfl 35 _ rfl (w.heap.size) rfl 35 (mc ⟨k, f, t, ⟨i, h.r⟩, n, x⟩ (.slice ao_p L_p cap_p)) (0, 0) _ r_a7.out Tryz.underlying35 rfl (sizeM _ _) ?_) | (refine wpl_partG rfl 35 _ _ rfl (w.heap.size + 1) 0 (mc ⟨k, f, t, ⟨i, h.r⟩, n, x⟩ (.slice ao_p L_p cap_p)) rfl rfl [.int .i64 0, .int .i64 0, .int .i64 0, .int .i64 0, .string ⟨#[]⟩, .int .i64 0, .slice none 0 0] 35 r_res7.out (Nat.le_of_ble_eq_true rfl) (sizeM _ _) (oneM _ rfl) [.int .i64 k, .int .i64 f, .int .i64 t, .int .i64 i, .string h.r, .int .i64 n, .slice ao_p L_p cap_p] rfl ?_))
       intro W8 r_res8 g8
       have cu8 := Ke.h (cu7.out.gro g8 (fun h9 => by injection h9 with h9; omega))
       have bw8 := Ke.i bw7 g8
       clear cu7 bw7
       have r_res8 := Ke.h r_res8
       have z8 := g8.size
       have B8 : Hid (Apart g (g + 1) w W8) := Apart.groM B7.out g8 (fun k9 h9 => by injection h9 with h9; have := B7.out.size; omega)
       have o_p8 := Ke.t o_p7 r_res7 g8
       clear r_a7 o_p7
       clear r_res7
       go_wp2
       exact bodyPost_ret (v := .agg (mc ⟨k, f, t, ⟨i, h.r⟩, n, x⟩ (.slice ao_p L_p cap_p))) (results_cell_row rfl _ _ (w.heap.size + 1) 35 _ (0, 0) _ rfl r_res8.out Tryz.underlying35 rfl (sizeM _ _)) rfl ⟨⟨k, f, t, ⟨i, h.r⟩, n, x⟩, .slice ao_p L_p cap_p, rfl, ⟨by simp only; omega, HSZ.out, hhd⟩, Own.mono o_p8.out (by omega) (by omega), ⟨cu8.out, B8.out, bw8.out⟩⟩
      ·have y5b : (y == 5) = false := by rw [beq_eq_false_iff_ne]; exact y5
       go_wp2_with (first | (refine wpList_load_row rfl 35 _ rfl (w.heap.size) rfl 35 (mc ⟨k, f, t, h, n, x⟩ (.slice ao_p L_p cap_p)) (0, 0) _ r_a4.out Tryz.underlying35 rfl (sizeM _ _) ?_) | (refine wpl_partG rfl 35 _ _ rfl (w.heap.size + 1) 0 (mc ⟨k, f, t, h, n, x⟩ (.slice ao_p L_p cap_p)) rfl rfl [.int .i64 0, .int .i64 0, .int .i64 0, .int .i64 0, .string ⟨#[]⟩, .int .i64 0, .slice none 0 0] 35 r_res4.out (Nat.le_of_ble_eq_true rfl) (sizeM _ _) (oneM _ rfl) [.int .i64 k, .int .i64 f, .int .i64 t, .int .i64 h.n, .string h.r, .int .i64 n, .slice ao_p L_p cap_p] rfl ?_))
       intro W5 r_res5 g5
       have cu5 := Ke.h (cu4.out.gro g5 (fun h9 => by injection h9 with h9; omega))
       have bw5 := Ke.i bw4 g5
       clear cu4 bw4
       have r_res5 := Ke.h r_res5
       have z5 := g5.size
       have B5 : Hid (Apart g (g + 1) w W5) := Apart.groM B4.out g5 (fun k9 h9 => by injection h9 with h9; have := B4.out.size; omega)
       have r_a5 := Ke.s r_a4 g5
       have o_p5 := Ke.t o_p4 r_res4 g5
       clear r_a4 c_a4 o_p4
       clear r_res4
       go_wp2
       exact bodyPost_ret (v := .agg (mc ⟨k, f, t, h, n, x⟩ (.slice ao_p L_p cap_p))) (results_cell_row rfl _ _ (w.heap.size + 1) 35 _ (0, 0) _ rfl r_res5.out Tryz.underlying35 rfl (sizeM _ _)) rfl ⟨⟨k, f, t, h, n, x⟩, .slice ao_p L_p cap_p, rfl, ⟨by simp only; omega, HSZ.out, hhd⟩, Own.mono o_p5.out (by omega) (by omega), ⟨cu5.out, B5.out, bw5.out⟩⟩
end Go.Proofs.YtchonoonclllbaaGreatDoor.Mg
