/- Chapter 13, the specification's draws: a word. -/
import Derived.Test.YteemblfjghnooaaMg2
import Derived.Test.YteemblfjghnooaaCrs
import Derived.Test.YteemblfjghnooaaTrD
import Derived.Test.YteemblfjghnooaaHeO
import Derived.Test.YteemblfjghnooaaHe6
namespace Go.Proofs.Yteemblfjghnooaa.Mg
open Go.RowKit Go.Proofs.Yteemblfjghnooaa.Mem Go.Proofs.Yteemblfjghnooaa.Laws Go.Proofs.Yteemblfjghnooaa.Bytes Go.Proofs.Yteemblfjghnooaa.Sha Go.Proofs.Yteemblfjghnooaa.Tr Go.Proofs.Yteemblfjghnooaa.Draw Go.Proofs.Yteemblfjghnooaa.He Go.Proofs.Yteemblfjghnooaa.Lg
set_option linter.unusedVariables false
set_option linter.unusedSimpArgs false

theorem lit1M (w : World) (lo : Nat) (x : ByteArray) (h : lo ≤ w.heap.size) : Own (w.alloc (.cells #[.string x] 9)) lo (w.alloc (.cells #[.string x] 9)).heap.size 9 (.slice (some ⟨w.heap.size, 0, none⟩) 1 1) (ss [x]) :=
  Own.of (World.ownsRow_lit w #[.string x] 1 h (by unfold maxLen; omega) rfl)
theorem Apart.groM {lo hi : Nat} {a w w' : World} {r : Option Nat} (h : Apart lo hi a w) (g : w.grownBy w' r) (hr : ∀ k, r = some k → a.heap.size ≤ k) : Apart lo hi a w' :=
  h.on (belowGro (Below.refl a.heap.size w) g h.size hr)
/-- what a draw of a word has -/
structure Dm (N : Nat) (m : Ms) : Prop where
  len : m.x.length ≤ N
  sz : ∀ s ∈ m.x, s.size ≤ 3
  hd : m.h.r.size ≤ 32
theorem nil9M (w : World) (lo hi : Nat) : Own w lo hi 9 (.slice none 0 0) (ss []) := ⟨⟨rfl, Or.inl ⟨rfl, rfl⟩⟩, fun g hg => by simp [Value.ownBlock] at hg⟩
theorem okHead {l : List ByteArray} (h : l.length ≤ 200) : okH (headOf l) = true := by
  unfold headOf
  rw [if_pos h]
  unfold okH
  have h1 : (root l).size = 32 := root_size l
  simp only [h1]
  simp
  omega
theorem draw_ok {y f t : Int} {l x : List ByteArray} {n : Int} (hl1 : 1 ≤ l.length) (hl9 : l.length ≤ 9) (hy : 0 ≤ y ∧ y < 3) (hf : 0 ≤ f ∧ f < 4) (ht : 0 ≤ t ∧ t < 2) (hk : (1 + y = 1 ∧ n = 0 ∧ x = []) ∨ (1 + y = 2 ∧ (0 ≤ n ∧ n < (l.length : Int)) ∧ x = []) ∨ (1 + y = 3 ∧ (0 ≤ n ∧ n < (l.length : Int)) ∧ x = l.drop n.toNat)) : msgOk ⟨1 + y, f, 4 + t, headOf l, n, x⟩ = true := by
  have hh : (headOf l).n = (l.length : Int) := by unfold headOf; rw [if_pos (by omega)]
  rw [is_face]
  · unfold kindOk
    simp only
    rcases hk with ⟨e, rfl, rfl⟩ | ⟨e, hn, rfl⟩ | ⟨e, hn, rfl⟩
    · rw [if_pos e]; simp
    · rw [if_neg (by omega), if_pos e, hh]; simp; omega
    · rw [if_neg (by omega), if_neg (by omega), if_pos e, hh, List.length_drop]; simp; omega
  · simp only
    refine ⟨by omega, by omega, by omega, okHead (by omega), ?_⟩
    rcases hk with ⟨e, rfl, rfl⟩ | ⟨e, hn, rfl⟩ | ⟨e, hn, rfl⟩ <;> omega

set_option maxRecDepth 1000000 in
set_option maxHeartbeats 16000000 in
theorem draw13 (W0 w : World) (g : Nat) (vb : Value) (xs : List Int) (hs : Sl W0 vb (bs xs)) (hby : Byt xs) (hx : xs.length ≤ 140737488355328) (hB : Below W0.heap.size W0 w) (hg : W0.heap.size ≤ g) (hcu : Cur w g vb xs.length) :
    Calls Try.prog 31 #[.pointer (some ⟨g, 0, none⟩)] w fun e w' => ∃ (m : Ms) (v : Value), e = .returned (.agg #[.int .i64 m.k, .int .i64 m.f, .int .i64 m.t, .int .i64 m.h.n, .string m.h.r, .int .i64 m.n, v]) ∧ Dm 9 m ∧ msgOk m = true ∧ Own w' w.heap.size w'.heap.size 9 v (ss m.x) ∧ Drawn W0 w g vb xs w' := by
  have HSW : Hid (Sl W0 vb (bs xs)) := hs
  have hgw := hcu.lt
  clear hs
  have B0 : Hid (Apart g (g + 1) w w) := Apart.refl _ _ _
  have cu0 : Hid (Cur w (g) vb xs.length) := hcu
  have bw0 : Hid (Below W0.heap.size W0 w) := hB
  obtain ⟨i9, hi9, hz9a, hz9b, hz9c⟩ := info_parts info9t
  obtain ⟨W1, HW1, b1, y1, hS1, r_res1⟩ : ∃ X, Hid ((w.alloc (.cells #[.int .i64 0, .int .i64 0, .int .i64 0, .int .i64 0, .string ⟨#[]⟩, .int .i64 0, .slice none 0 0] 28)) = X) ∧ Below w.heap.size w X ∧ w.heap.size + 1 ≤ X.heap.size ∧ Hid (X.heap.size = w.heap.size + 1) ∧ Hid (X.heap[w.heap.size]? = some (.cells #[.int .i64 0, .int .i64 0, .int .i64 0, .int .i64 0, .string ⟨#[]⟩, .int .i64 0, .slice none 0 0] 28 (0, 0))) := ⟨_, rfl, ((Below.refl _ _).alloc (Nat.le_refl _) _), by simp, by show _ = _; simp, (by show _ = _; exact alloc_nth1_0 w _)⟩
  have z1 : w.heap.size ≤ W1.heap.size := b1.size
  have B1 : Hid (Apart g (g + 1) w W1) := B0.out.grow b1
  have c_res1_0 : W1.cell? ⟨w.heap.size, 0, none⟩ = some (.int .i64 0) := row_at r_res1.out 0
  have c_res1_1 : W1.cell? ⟨w.heap.size, 1, none⟩ = some (.int .i64 0) := row_at r_res1.out 1
  have c_res1_2 : W1.cell? ⟨w.heap.size, 2, none⟩ = some (.int .i64 0) := row_at r_res1.out 2
  have c_res1_3 : W1.cell? ⟨w.heap.size, 3, none⟩ = some (.int .i64 0) := row_at r_res1.out 3
  have c_res1_4 : W1.cell? ⟨w.heap.size, 4, none⟩ = some (.string ⟨#[]⟩) := row_at r_res1.out 4
  have c_res1_5 : W1.cell? ⟨w.heap.size, 5, none⟩ = some (.int .i64 0) := row_at r_res1.out 5
  have c_res1_6 : W1.cell? ⟨w.heap.size, 6, none⟩ = some (.slice none 0 0) := row_at r_res1.out 6
  have cu1 : Hid (Cur W1 (g) vb xs.length) := cu0.out.keep b1
  have bw1 : Hid (Below W0.heap.size W0 W1) := bw0.out.trans (b1.mono bw0.out.size)
  clear cu0 bw0
  go_enter Try.func31, Try.ntmps31
  go_wp2_with fail
  rw [HW1.out]
  refine (Tr.list_any W0 W1 g _ xs HSW.out hby hx bw1.out hg cu1.out).mono ?_
  rintro e W2 ⟨v_l, l, rfl, hll, hls, o_l2, d2⟩
  obtain ⟨ao_l, L_l, cap_l, rfl, hL_l, hM_l⟩ := o_l2.form
  have o_l2 : Hid (Own W2 W1.heap.size W2.heap.size 9 (.slice ao_l L_l cap_l) (ss l)) := o_l2
  clear hL_l hM_l
  have z2 : W1.heap.size ≤ W2.heap.size := d2.apart.size
  have B2 : Hid (Apart g (g + 1) w W2) := B1.out.trans d2.apart
  have cu2 : Hid (Cur W2 (g) vb xs.length) := d2.cur
  have bw2 : Hid (Below W0.heap.size W0 W2) := d2.below
  have r_res2 : Hid (W2.heap[w.heap.size]? = some (.cells #[.int .i64 0, .int .i64 0, .int .i64 0, .int .i64 0, .string ⟨#[]⟩, .int .i64 0, .slice none 0 0] 28 (0, 0))) := drawn_row r_res1.out d2 (by omega)
  have c_res2_0 : W2.cell? ⟨w.heap.size, 0, none⟩ = some (.int .i64 0) := row_at r_res2.out 0
  have c_res2_1 : W2.cell? ⟨w.heap.size, 1, none⟩ = some (.int .i64 0) := row_at r_res2.out 1
  have c_res2_2 : W2.cell? ⟨w.heap.size, 2, none⟩ = some (.int .i64 0) := row_at r_res2.out 2
  have c_res2_3 : W2.cell? ⟨w.heap.size, 3, none⟩ = some (.int .i64 0) := row_at r_res2.out 3
  have c_res2_4 : W2.cell? ⟨w.heap.size, 4, none⟩ = some (.string ⟨#[]⟩) := row_at r_res2.out 4
  have c_res2_5 : W2.cell? ⟨w.heap.size, 5, none⟩ = some (.int .i64 0) := row_at r_res2.out 5
  have c_res2_6 : W2.cell? ⟨w.heap.size, 6, none⟩ = some (.slice none 0 0) := row_at r_res2.out 6
  clear r_res1 c_res1_0 c_res1_1 c_res1_2 c_res1_3 c_res1_4 c_res1_5 c_res1_6
  clear cu1 bw1 d2
  have a_res2_0 : ∀ o, (W2.alloc o).cell? ⟨w.heap.size, 0, none⟩ = some (.int .i64 0) := fun o => keepR c_res2_0 ((Below.refl _ _).alloc (Nat.le_refl _) o)
  have a_res2_1 : ∀ o, (W2.alloc o).cell? ⟨w.heap.size, 1, none⟩ = some (.int .i64 0) := fun o => keepR c_res2_1 ((Below.refl _ _).alloc (Nat.le_refl _) o)
  have a_res2_2 : ∀ o, (W2.alloc o).cell? ⟨w.heap.size, 2, none⟩ = some (.int .i64 0) := fun o => keepR c_res2_2 ((Below.refl _ _).alloc (Nat.le_refl _) o)
  have a_res2_3 : ∀ o, (W2.alloc o).cell? ⟨w.heap.size, 3, none⟩ = some (.int .i64 0) := fun o => keepR c_res2_3 ((Below.refl _ _).alloc (Nat.le_refl _) o)
  have a_res2_4 : ∀ o, (W2.alloc o).cell? ⟨w.heap.size, 4, none⟩ = some (.string ⟨#[]⟩) := fun o => keepR c_res2_4 ((Below.refl _ _).alloc (Nat.le_refl _) o)
  have a_res2_5 : ∀ o, (W2.alloc o).cell? ⟨w.heap.size, 5, none⟩ = some (.int .i64 0) := fun o => keepR c_res2_5 ((Below.refl _ _).alloc (Nat.le_refl _) o)
  have a_res2_6 : ∀ o, (W2.alloc o).cell? ⟨w.heap.size, 6, none⟩ = some (.slice none 0 0) := fun o => keepR c_res2_6 ((Below.refl _ _).alloc (Nat.le_refl _) o)
  obtain ⟨W3, HW3, b3, hS3, o_e3⟩ : ∃ X, Hid ((W2.alloc (.cells #[.string ⟨#[113]⟩] 9)) = X) ∧ Below W2.heap.size W2 X ∧ Hid (X.heap.size = W2.heap.size + 1) ∧ Hid (Own X W2.heap.size X.heap.size 9 (.slice (some ⟨W2.heap.size, 0, none⟩) 1 1) (ss [⟨#[113]⟩])) := ⟨_, rfl, (Below.refl _ _).alloc (Nat.le_refl _) _, (by show _ = _; simp), lit1M W2 W2.heap.size ⟨#[113]⟩ (Nat.le_refl _)⟩
  have z3 : W2.heap.size ≤ W3.heap.size := b3.size
  have B3 : Hid (Apart g (g + 1) w W3) := B2.out.grow b3
  have r_res3 : Hid (W3.heap[w.heap.size]? = some (.cells #[.int .i64 0, .int .i64 0, .int .i64 0, .int .i64 0, .string ⟨#[]⟩, .int .i64 0, .slice none 0 0] 28 (0, 0))) := rowKeep r_res2.out b3
  have o_l3 : Hid (Own W3 (W1.heap.size) (W2.heap.size) 9 (.slice ao_l L_l cap_l) (ss l)) := Own.later o_l2.out b3 (by omega)
  have c_res3_0 : W3.cell? ⟨w.heap.size, 0, none⟩ = some (.int .i64 0) := row_at r_res3.out 0
  have c_res3_1 : W3.cell? ⟨w.heap.size, 1, none⟩ = some (.int .i64 0) := row_at r_res3.out 1
  have c_res3_2 : W3.cell? ⟨w.heap.size, 2, none⟩ = some (.int .i64 0) := row_at r_res3.out 2
  have c_res3_3 : W3.cell? ⟨w.heap.size, 3, none⟩ = some (.int .i64 0) := row_at r_res3.out 3
  have c_res3_4 : W3.cell? ⟨w.heap.size, 4, none⟩ = some (.string ⟨#[]⟩) := row_at r_res3.out 4
  have c_res3_5 : W3.cell? ⟨w.heap.size, 5, none⟩ = some (.int .i64 0) := row_at r_res3.out 5
  have c_res3_6 : W3.cell? ⟨w.heap.size, 6, none⟩ = some (.slice none 0 0) := row_at r_res3.out 6
  clear r_res2 c_res2_0 c_res2_1 c_res2_2 c_res2_3 c_res2_4 c_res2_5 c_res2_6 o_l2
  have cu3 : Hid (Cur W3 (g) vb xs.length) := cu2.out.keep b3
  have bw3 : Hid (Below W0.heap.size W0 W3) := bw2.out.trans (b3.mono bw2.out.size)
  clear cu2 bw2
  obtain ⟨all, hall⟩ : ∃ all : List ByteArray, l ++ [⟨#[113]⟩] = all := ⟨_, rfl⟩
  have hA1 : 1 ≤ all.length ∧ all.length ≤ 9 := by rw [← hall]; simp; omega
  have hAz : ∀ s ∈ all, s.size ≤ 3 := by
    rw [← hall]
    intro s hs9
    rcases List.mem_append.1 hs9 with h9 | h9
    · exact hls s h9
    · rw [List.mem_singleton.1 h9]; show (1 : Nat) ≤ 3; omega
  have HALL : Hid (l ++ [⟨#[113]⟩] = all) := hall
  have HAZ : Hid (∀ s ∈ all, s.size ≤ 3) := hAz
  clear hall
  have c6_4 : (ss l).length + (ss [⟨#[113]⟩]).length ≤ maxLen := by rw [ss_len, ss_len]; unfold maxLen; (try simp only [List.length_nil]); (try simp only [List.length_cons, List.length_nil]); omega
  have c7_4 : ((ss l).length + (ss [⟨#[113]⟩]).length) * 16 ≤ 140737488355328 := by rw [ss_len, ss_len]; (try simp only [List.length_nil]); (try simp only [List.length_cons, List.length_nil]); omega
  have sE4 : Hid (Sl W3 _ (ss [⟨#[113]⟩])) := o_e3.out.sl
  go_wp2_with (at_builtin; (try rw [HW3.out]); go_must (refine wpl_app _ rfl (.tmp 6) (.tmp 7) 26 rfl 9 i9 (.string ⟨#[]⟩) 16 Try.underlying26 hi9 hz9a hz9b hz9c rfl (W1.heap.size) _ (ss l) rfl (Own.mono o_l3.out (Nat.le_refl _) (by omega)) _ rfl (ss [⟨#[113]⟩]) sE4.out (ss_one [⟨#[113]⟩]) c6_4 c7_4 (by omega) ?_))
  intro v_all W4 o_all4 _ g4
  clear a_res2_0 a_res2_1 a_res2_2 a_res2_3 a_res2_4 a_res2_5 a_res2_6
  have o_all4 : Own W4 (W1.heap.size) W4.heap.size 9 v_all (ss all) := by show Own _ _ _ _ _ _; rw [← HALL.out, ss_app]; exact o_all4
  have o_all4h : Hid (Own W4 (W1.heap.size) W4.heap.size 9 v_all (ss all)) := o_all4
  have cu4 : Hid (Cur W4 (g) vb xs.length) := cu3.out.groOwn o_l3.out g4 (by decide)
  have bw4 : Hid (Below W0.heap.size W0 W4) := belowGro bw3.out g4 bw3.out.size (Own.low o_l3.out (by omega))
  clear cu3 bw3
  clear o_all4
  have o_all4 := o_all4h
  clear o_all4h
  obtain ⟨ao_all, L_all, cap_all, rfl, _, _⟩ := Mem.Own.form o_all4.out
  have z4 : W3.heap.size ≤ W4.heap.size := g4.size
  have B4 : Hid (Apart g (g + 1) w W4) := Apart.groM B3.out g4 (Own.low o_l3.out (by have := B3.out.size; omega))
  have r_res4 : Hid (W4.heap[w.heap.size]? = some (.cells #[.int .i64 0, .int .i64 0, .int .i64 0, .int .i64 0, .string ⟨#[]⟩, .int .i64 0, .slice none 0 0] 28 (0, 0))) := rowGro r_res3.out g4 (Own.neRow o_l3.out r_res3.out (by decide))
  have o_e4 : Hid (Own W4 (W2.heap.size) (W3.heap.size) 9 (.slice (some ⟨W2.heap.size, 0, none⟩) 1 1) (ss [⟨#[113]⟩])) := Own.gro o_e3.out g4 (Own.neFar o_l3.out o_e3.out (by omega))
  have c_res4_0 : W4.cell? ⟨w.heap.size, 0, none⟩ = some (.int .i64 0) := row_at r_res4.out 0
  have c_res4_1 : W4.cell? ⟨w.heap.size, 1, none⟩ = some (.int .i64 0) := row_at r_res4.out 1
  have c_res4_2 : W4.cell? ⟨w.heap.size, 2, none⟩ = some (.int .i64 0) := row_at r_res4.out 2
  have c_res4_3 : W4.cell? ⟨w.heap.size, 3, none⟩ = some (.int .i64 0) := row_at r_res4.out 3
  have c_res4_4 : W4.cell? ⟨w.heap.size, 4, none⟩ = some (.string ⟨#[]⟩) := row_at r_res4.out 4
  have c_res4_5 : W4.cell? ⟨w.heap.size, 5, none⟩ = some (.int .i64 0) := row_at r_res4.out 5
  have c_res4_6 : W4.cell? ⟨w.heap.size, 6, none⟩ = some (.slice none 0 0) := row_at r_res4.out 6
  clear r_res3 c_res3_0 c_res3_1 c_res3_2 c_res3_3 c_res3_4 c_res3_5 c_res3_6 o_l3 o_e3
  clear g4 sE4 c6_4 c7_4
  clear o_e4
  obtain rfl : L_all = all.length := by obtain ⟨a9, L9, c9, he, h1, h2⟩ := Mem.Own.form o_all4.out; injection he with _ he2 _; rw [ss_len] at h1 h2; omega
  obtain ⟨ga, rfl, hga1, hga2, curA, hcurA, _⟩ := Own.blockG o_all4.out (by omega)
  clear hcurA
  have hcap : all.length ≤ cap_all := by obtain ⟨a9, c9, he, h1, _⟩ := o_all4.out.sl; injection he with _ he2 he3; rw [ss_len] at h1; omega
  go_wp2_with fail
  refine (below_any W0 W4 g _ xs 3 (by omega) (by omega) HSW.out hby hx bw4.out hg cu4.out).mono ?_
  rintro e W5 ⟨y, rfl, hy0, hy3, d5⟩
  have z5 : W4.heap.size ≤ W5.heap.size := d5.apart.size
  have B5 : Hid (Apart g (g + 1) w W5) := B4.out.trans d5.apart
  have cu5 : Hid (Cur W5 (g) vb xs.length) := d5.cur
  have bw5 : Hid (Below W0.heap.size W0 W5) := d5.below
  have r_res5 : Hid (W5.heap[w.heap.size]? = some (.cells #[.int .i64 0, .int .i64 0, .int .i64 0, .int .i64 0, .string ⟨#[]⟩, .int .i64 0, .slice none 0 0] 28 (0, 0))) := drawn_row r_res4.out d5 (by omega)
  have o_all5 : Hid (Own W5 (W1.heap.size) (W4.heap.size) 9 (.slice (some ⟨ga, 0, none⟩) all.length cap_all) (ss all)) := Own.drawn o_all4.out d5 (by omega) (by omega)
  have c_res5_0 : W5.cell? ⟨w.heap.size, 0, none⟩ = some (.int .i64 0) := row_at r_res5.out 0
  have c_res5_1 : W5.cell? ⟨w.heap.size, 1, none⟩ = some (.int .i64 0) := row_at r_res5.out 1
  have c_res5_2 : W5.cell? ⟨w.heap.size, 2, none⟩ = some (.int .i64 0) := row_at r_res5.out 2
  have c_res5_3 : W5.cell? ⟨w.heap.size, 3, none⟩ = some (.int .i64 0) := row_at r_res5.out 3
  have c_res5_4 : W5.cell? ⟨w.heap.size, 4, none⟩ = some (.string ⟨#[]⟩) := row_at r_res5.out 4
  have c_res5_5 : W5.cell? ⟨w.heap.size, 5, none⟩ = some (.int .i64 0) := row_at r_res5.out 5
  have c_res5_6 : W5.cell? ⟨w.heap.size, 6, none⟩ = some (.slice none 0 0) := row_at r_res5.out 6
  clear r_res4 c_res4_0 c_res4_1 c_res4_2 c_res4_3 c_res4_4 c_res4_5 c_res4_6 o_all4
  clear cu4 bw4 d5
  have wy : IntKind.i64.wrap (1 + y) = 1 + y := by rw [IntKind.wrap_i64]; omega
  go_wp2_with fail
  refine (below_any W0 W5 g _ xs 4 (by omega) (by omega) HSW.out hby hx bw5.out hg cu5.out).mono ?_
  rintro e W6 ⟨f, rfl, hf0, hf3, d6⟩
  have z6 : W5.heap.size ≤ W6.heap.size := d6.apart.size
  have B6 : Hid (Apart g (g + 1) w W6) := B5.out.trans d6.apart
  have cu6 : Hid (Cur W6 (g) vb xs.length) := d6.cur
  have bw6 : Hid (Below W0.heap.size W0 W6) := d6.below
  have r_res6 : Hid (W6.heap[w.heap.size]? = some (.cells #[.int .i64 0, .int .i64 0, .int .i64 0, .int .i64 0, .string ⟨#[]⟩, .int .i64 0, .slice none 0 0] 28 (0, 0))) := drawn_row r_res5.out d6 (by omega)
  have o_all6 : Hid (Own W6 (W1.heap.size) (W4.heap.size) 9 (.slice (some ⟨ga, 0, none⟩) all.length cap_all) (ss all)) := Own.drawn o_all5.out d6 (by omega) (by omega)
  have c_res6_0 : W6.cell? ⟨w.heap.size, 0, none⟩ = some (.int .i64 0) := row_at r_res6.out 0
  have c_res6_1 : W6.cell? ⟨w.heap.size, 1, none⟩ = some (.int .i64 0) := row_at r_res6.out 1
  have c_res6_2 : W6.cell? ⟨w.heap.size, 2, none⟩ = some (.int .i64 0) := row_at r_res6.out 2
  have c_res6_3 : W6.cell? ⟨w.heap.size, 3, none⟩ = some (.int .i64 0) := row_at r_res6.out 3
  have c_res6_4 : W6.cell? ⟨w.heap.size, 4, none⟩ = some (.string ⟨#[]⟩) := row_at r_res6.out 4
  have c_res6_5 : W6.cell? ⟨w.heap.size, 5, none⟩ = some (.int .i64 0) := row_at r_res6.out 5
  have c_res6_6 : W6.cell? ⟨w.heap.size, 6, none⟩ = some (.slice none 0 0) := row_at r_res6.out 6
  clear r_res5 c_res5_0 c_res5_1 c_res5_2 c_res5_3 c_res5_4 c_res5_5 c_res5_6 o_all5
  clear cu5 bw5 d6
  go_wp2_with fail
  refine (below_any W0 W6 g _ xs 2 (by omega) (by omega) HSW.out hby hx bw6.out hg cu6.out).mono ?_
  rintro e W7 ⟨t, rfl, ht0, ht3, d7⟩
  have z7 : W6.heap.size ≤ W7.heap.size := d7.apart.size
  have B7 : Hid (Apart g (g + 1) w W7) := B6.out.trans d7.apart
  have cu7 : Hid (Cur W7 (g) vb xs.length) := d7.cur
  have bw7 : Hid (Below W0.heap.size W0 W7) := d7.below
  have r_res7 : Hid (W7.heap[w.heap.size]? = some (.cells #[.int .i64 0, .int .i64 0, .int .i64 0, .int .i64 0, .string ⟨#[]⟩, .int .i64 0, .slice none 0 0] 28 (0, 0))) := drawn_row r_res6.out d7 (by omega)
  have o_all7 : Hid (Own W7 (W1.heap.size) (W4.heap.size) 9 (.slice (some ⟨ga, 0, none⟩) all.length cap_all) (ss all)) := Own.drawn o_all6.out d7 (by omega) (by omega)
  have c_res7_0 : W7.cell? ⟨w.heap.size, 0, none⟩ = some (.int .i64 0) := row_at r_res7.out 0
  have c_res7_1 : W7.cell? ⟨w.heap.size, 1, none⟩ = some (.int .i64 0) := row_at r_res7.out 1
  have c_res7_2 : W7.cell? ⟨w.heap.size, 2, none⟩ = some (.int .i64 0) := row_at r_res7.out 2
  have c_res7_3 : W7.cell? ⟨w.heap.size, 3, none⟩ = some (.int .i64 0) := row_at r_res7.out 3
  have c_res7_4 : W7.cell? ⟨w.heap.size, 4, none⟩ = some (.string ⟨#[]⟩) := row_at r_res7.out 4
  have c_res7_5 : W7.cell? ⟨w.heap.size, 5, none⟩ = some (.int .i64 0) := row_at r_res7.out 5
  have c_res7_6 : W7.cell? ⟨w.heap.size, 6, none⟩ = some (.slice none 0 0) := row_at r_res7.out 6
  clear r_res6 c_res6_0 c_res6_1 c_res6_2 c_res6_3 c_res6_4 c_res6_5 c_res6_6 o_all6
  clear cu6 bw6 d7
  have wt : IntKind.i64.wrap (4 + t) = 4 + t := by rw [IntKind.wrap_i64]; omega
  have hq := headOf_size all
  obtain ⟨M, hM⟩ : ∃ M, headOf all = M := ⟨_, rfl⟩
  have q : ∀ W v1, Sl W v1 (ss all) → _ := fun W v1 h1 => headOf_spec W v1 all h1 (by omega) (fun s hs => by have := hAz s hs; omega)
  simp only [hM] at q hq
  have HM : Hid (headOf all = M) := hM
  clear hM
  go_wp2_with fail
  refine (q W7 _ o_all7.out.sl).mono ?_
  rintro e W8 ⟨rfl, b8⟩
  have z8 : W7.heap.size ≤ W8.heap.size := b8.size
  have B8 : Hid (Apart g (g + 1) w W8) := B7.out.grow b8
  have r_res8 : Hid (W8.heap[w.heap.size]? = some (.cells #[.int .i64 0, .int .i64 0, .int .i64 0, .int .i64 0, .string ⟨#[]⟩, .int .i64 0, .slice none 0 0] 28 (0, 0))) := rowKeep r_res7.out b8
  have o_all8 : Hid (Own W8 (W1.heap.size) (W4.heap.size) 9 (.slice (some ⟨ga, 0, none⟩) all.length cap_all) (ss all)) := Own.later o_all7.out b8 (by omega)
  have c_res8_0 : W8.cell? ⟨w.heap.size, 0, none⟩ = some (.int .i64 0) := row_at r_res8.out 0
  have c_res8_1 : W8.cell? ⟨w.heap.size, 1, none⟩ = some (.int .i64 0) := row_at r_res8.out 1
  have c_res8_2 : W8.cell? ⟨w.heap.size, 2, none⟩ = some (.int .i64 0) := row_at r_res8.out 2
  have c_res8_3 : W8.cell? ⟨w.heap.size, 3, none⟩ = some (.int .i64 0) := row_at r_res8.out 3
  have c_res8_4 : W8.cell? ⟨w.heap.size, 4, none⟩ = some (.string ⟨#[]⟩) := row_at r_res8.out 4
  have c_res8_5 : W8.cell? ⟨w.heap.size, 5, none⟩ = some (.int .i64 0) := row_at r_res8.out 5
  have c_res8_6 : W8.cell? ⟨w.heap.size, 6, none⟩ = some (.slice none 0 0) := row_at r_res8.out 6
  clear r_res7 c_res7_0 c_res7_1 c_res7_2 c_res7_3 c_res7_4 c_res7_5 c_res7_6 o_all7
  have cu8 : Hid (Cur W8 (g) vb xs.length) := cu7.out.keep b8
  have bw8 : Hid (Below W0.heap.size W0 W8) := bw7.out.trans (b8.mono bw7.out.size)
  clear cu7 bw7
  obtain ⟨Kd, hK⟩ : ∃ Kd, 1 + y = Kd := ⟨_, rfl⟩
  obtain ⟨T, hT⟩ : ∃ T, 4 + t = T := ⟨_, rfl⟩
  have HK : Hid (1 + y = Kd) := hK
  have HT : Hid (4 + t = T) := hT
  have hKb : 1 ≤ Kd ∧ Kd ≤ 3 := by omega
  rw [hK] at wy
  rw [hT] at wt
  simp only [hK, hT]
  clear hK hT q
  have a_res8_0 : ∀ o, (W8.alloc o).cell? ⟨w.heap.size, 0, none⟩ = some (.int .i64 0) := fun o => keepR c_res8_0 ((Below.refl _ _).alloc (Nat.le_refl _) o)
  have a_res8_1 : ∀ o, (W8.alloc o).cell? ⟨w.heap.size, 1, none⟩ = some (.int .i64 0) := fun o => keepR c_res8_1 ((Below.refl _ _).alloc (Nat.le_refl _) o)
  have a_res8_2 : ∀ o, (W8.alloc o).cell? ⟨w.heap.size, 2, none⟩ = some (.int .i64 0) := fun o => keepR c_res8_2 ((Below.refl _ _).alloc (Nat.le_refl _) o)
  have a_res8_3 : ∀ o, (W8.alloc o).cell? ⟨w.heap.size, 3, none⟩ = some (.int .i64 0) := fun o => keepR c_res8_3 ((Below.refl _ _).alloc (Nat.le_refl _) o)
  have a_res8_4 : ∀ o, (W8.alloc o).cell? ⟨w.heap.size, 4, none⟩ = some (.string ⟨#[]⟩) := fun o => keepR c_res8_4 ((Below.refl _ _).alloc (Nat.le_refl _) o)
  have a_res8_5 : ∀ o, (W8.alloc o).cell? ⟨w.heap.size, 5, none⟩ = some (.int .i64 0) := fun o => keepR c_res8_5 ((Below.refl _ _).alloc (Nat.le_refl _) o)
  have a_res8_6 : ∀ o, (W8.alloc o).cell? ⟨w.heap.size, 6, none⟩ = some (.slice none 0 0) := fun o => keepR c_res8_6 ((Below.refl _ _).alloc (Nat.le_refl _) o)
  obtain ⟨W9, HW9, b9, y9, hS9, r_m9⟩ : ∃ X, Hid ((W8.alloc (.cells #[.int .i64 Kd, .int .i64 f, .int .i64 T, .int .i64 M.n, .string M.r, .int .i64 0, .slice none 0 0] 28)) = X) ∧ Below W8.heap.size W8 X ∧ W8.heap.size + 1 ≤ X.heap.size ∧ Hid (X.heap.size = W8.heap.size + 1) ∧ Hid (X.heap[W8.heap.size]? = some (.cells #[.int .i64 Kd, .int .i64 f, .int .i64 T, .int .i64 M.n, .string M.r, .int .i64 0, .slice none 0 0] 28 (0, 0))) := ⟨_, rfl, ((Below.refl _ _).alloc (Nat.le_refl _) _), by simp, by show _ = _; simp, (by show _ = _; exact alloc_nth1_0 W8 _)⟩
  have z9 : W8.heap.size ≤ W9.heap.size := b9.size
  have B9 : Hid (Apart g (g + 1) w W9) := B8.out.grow b9
  have r_res9 : Hid (W9.heap[w.heap.size]? = some (.cells #[.int .i64 0, .int .i64 0, .int .i64 0, .int .i64 0, .string ⟨#[]⟩, .int .i64 0, .slice none 0 0] 28 (0, 0))) := rowKeep r_res8.out b9
  have o_all9 : Hid (Own W9 (W1.heap.size) (W4.heap.size) 9 (.slice (some ⟨ga, 0, none⟩) all.length cap_all) (ss all)) := Own.later o_all8.out b9 (by omega)
  have c_res9_0 : W9.cell? ⟨w.heap.size, 0, none⟩ = some (.int .i64 0) := row_at r_res9.out 0
  have c_res9_1 : W9.cell? ⟨w.heap.size, 1, none⟩ = some (.int .i64 0) := row_at r_res9.out 1
  have c_res9_2 : W9.cell? ⟨w.heap.size, 2, none⟩ = some (.int .i64 0) := row_at r_res9.out 2
  have c_res9_3 : W9.cell? ⟨w.heap.size, 3, none⟩ = some (.int .i64 0) := row_at r_res9.out 3
  have c_res9_4 : W9.cell? ⟨w.heap.size, 4, none⟩ = some (.string ⟨#[]⟩) := row_at r_res9.out 4
  have c_res9_5 : W9.cell? ⟨w.heap.size, 5, none⟩ = some (.int .i64 0) := row_at r_res9.out 5
  have c_res9_6 : W9.cell? ⟨w.heap.size, 6, none⟩ = some (.slice none 0 0) := row_at r_res9.out 6
  have c_m9_0 : W9.cell? ⟨W8.heap.size, 0, none⟩ = some (.int .i64 Kd) := row_at r_m9.out 0
  have c_m9_1 : W9.cell? ⟨W8.heap.size, 1, none⟩ = some (.int .i64 f) := row_at r_m9.out 1
  have c_m9_2 : W9.cell? ⟨W8.heap.size, 2, none⟩ = some (.int .i64 T) := row_at r_m9.out 2
  have c_m9_3 : W9.cell? ⟨W8.heap.size, 3, none⟩ = some (.int .i64 M.n) := row_at r_m9.out 3
  have c_m9_4 : W9.cell? ⟨W8.heap.size, 4, none⟩ = some (.string M.r) := row_at r_m9.out 4
  have c_m9_5 : W9.cell? ⟨W8.heap.size, 5, none⟩ = some (.int .i64 0) := row_at r_m9.out 5
  have c_m9_6 : W9.cell? ⟨W8.heap.size, 6, none⟩ = some (.slice none 0 0) := row_at r_m9.out 6
  clear r_res8 c_res8_0 c_res8_1 c_res8_2 c_res8_3 c_res8_4 c_res8_5 c_res8_6 o_all8
  have cu9 : Hid (Cur W9 (g) vb xs.length) := cu8.out.keep b9
  have bw9 : Hid (Below W0.heap.size W0 W9) := bw8.out.trans (b9.mono bw8.out.size)
  clear cu8 bw8
  by_cases k1 : Kd = 1
  · have k1b : (Kd != 1) = false := by rw [k1]; rfl
    have k1c : (Kd == 1) = true := by rw [k1]; rfl
    have k3b : (Kd == 3) = false := by rw [k1]; rfl
    have HK1 : Hid (Kd = 1) := k1
    clear k1
    go_wp2_with ((try rw [HW9.out]); (first | (refine wpList_load_row rfl 28 _ rfl (W8.heap.size) rfl 28 (mc ⟨Kd, f, T, M, 0, []⟩ (.slice none 0 0)) (0, 0) _ r_m9.out Try.underlying28 rfl (sizeM _ _) ?_) | (refine wpl_partG rfl 28 _ _ rfl (w.heap.size) 0 (mc ⟨Kd, f, T, M, 0, []⟩ (.slice none 0 0)) rfl rfl [.int .i64 0, .int .i64 0, .int .i64 0, .int .i64 0, .string ⟨#[]⟩, .int .i64 0, .slice none 0 0] 28 r_res9.out (Nat.le_of_ble_eq_true rfl) (sizeM _ _) (oneM _ rfl) [.int .i64 Kd, .int .i64 f, .int .i64 T, .int .i64 M.n, .string M.r, .int .i64 0, .slice none 0 0] rfl ?_)))
    intro W10 r_res10 g10
    clear a_res8_0 a_res8_1 a_res8_2 a_res8_3 a_res8_4 a_res8_5 a_res8_6
    have cu10 : Hid (Cur W10 (g) vb xs.length) := cu9.out.gro g10 (fun h9 => by injection h9 with h9; omega)
    have bw10 : Hid (Below W0.heap.size W0 W10) := belowGro bw9.out g10 bw9.out.size (fun k9 h9 => by injection h9 with h9; omega)
    clear cu9 bw9
    have r_res10 : Hid (W10.heap[w.heap.size]? = some (.cells #[.int .i64 Kd, .int .i64 f, .int .i64 T, .int .i64 M.n, .string M.r, .int .i64 0, .slice none 0 0] 28 (0, 0))) := r_res10
    have z10 : W9.heap.size ≤ W10.heap.size := g10.size
    have B10 : Hid (Apart g (g + 1) w W10) := Apart.groM B9.out g10 (fun k9 h9 => by injection h9 with h9; have := B9.out.size; omega)
    have r_m10 : Hid (W10.heap[W8.heap.size]? = some (.cells #[.int .i64 Kd, .int .i64 f, .int .i64 T, .int .i64 M.n, .string M.r, .int .i64 0, .slice none 0 0] 28 (0, 0))) := rowGro r_m9.out g10 (fun h9 => by injection h9 with h9; omega)
    have o_all10 : Hid (Own W10 (W1.heap.size) (W4.heap.size) 9 (.slice (some ⟨ga, 0, none⟩) all.length cap_all) (ss all)) := Own.gro o_all9.out g10 (fun k9 h9 e9 => Own.neRow o_all9.out r_res9.out (by decide) (h9.trans e9.symm))
    have c_res10_0 : W10.cell? ⟨w.heap.size, 0, none⟩ = some (.int .i64 Kd) := row_at r_res10.out 0
    have c_res10_1 : W10.cell? ⟨w.heap.size, 1, none⟩ = some (.int .i64 f) := row_at r_res10.out 1
    have c_res10_2 : W10.cell? ⟨w.heap.size, 2, none⟩ = some (.int .i64 T) := row_at r_res10.out 2
    have c_res10_3 : W10.cell? ⟨w.heap.size, 3, none⟩ = some (.int .i64 M.n) := row_at r_res10.out 3
    have c_res10_4 : W10.cell? ⟨w.heap.size, 4, none⟩ = some (.string M.r) := row_at r_res10.out 4
    have c_res10_5 : W10.cell? ⟨w.heap.size, 5, none⟩ = some (.int .i64 0) := row_at r_res10.out 5
    have c_res10_6 : W10.cell? ⟨w.heap.size, 6, none⟩ = some (.slice none 0 0) := row_at r_res10.out 6
    have c_m10_0 : W10.cell? ⟨W8.heap.size, 0, none⟩ = some (.int .i64 Kd) := row_at r_m10.out 0
    have c_m10_1 : W10.cell? ⟨W8.heap.size, 1, none⟩ = some (.int .i64 f) := row_at r_m10.out 1
    have c_m10_2 : W10.cell? ⟨W8.heap.size, 2, none⟩ = some (.int .i64 T) := row_at r_m10.out 2
    have c_m10_3 : W10.cell? ⟨W8.heap.size, 3, none⟩ = some (.int .i64 M.n) := row_at r_m10.out 3
    have c_m10_4 : W10.cell? ⟨W8.heap.size, 4, none⟩ = some (.string M.r) := row_at r_m10.out 4
    have c_m10_5 : W10.cell? ⟨W8.heap.size, 5, none⟩ = some (.int .i64 0) := row_at r_m10.out 5
    have c_m10_6 : W10.cell? ⟨W8.heap.size, 6, none⟩ = some (.slice none 0 0) := row_at r_m10.out 6
    clear r_m9 c_m9_0 c_m9_1 c_m9_2 c_m9_3 c_m9_4 c_m9_5 c_m9_6 o_all9
    clear r_res9 c_res9_0 c_res9_1 c_res9_2 c_res9_3 c_res9_4 c_res9_5 c_res9_6
    go_wp2
    exact bodyPost_ret (v := .agg (mc ⟨Kd, f, T, M, 0, []⟩ (.slice none 0 0))) (results_cell_row rfl _ _ (w.heap.size) 28 _ (0, 0) _ rfl r_res10.out Try.underlying28 rfl (sizeM _ _)) rfl ⟨⟨Kd, f, T, M, 0, []⟩, .slice none 0 0, rfl, ⟨by simp <;> omega, by simp only; first | exact HAZ.out | (intro s hs; first | exact HAZ.out s (List.mem_of_mem_drop hs) | cases hs), hq⟩, by rw [← HK.out, ← HT.out, ← HM.out]; exact draw_ok hA1.1 hA1.2 ⟨hy0, hy3⟩ ⟨hf0, hf3⟩ ⟨ht0, ht3⟩ (Or.inl ⟨HK.out.trans HK1.out, rfl, rfl⟩), nil9M _ _ _, ⟨cu10.out, B10.out, bw10.out⟩⟩
  · have k1c : (Kd == 1) = false := by rw [beq_eq_false_iff_ne]; exact k1
    have k1b : (Kd != 1) = true := by rw [bne, k1c]; rfl
    go_wp2_with fail
    rw [HW9.out]
    clear a_res8_0 a_res8_1 a_res8_2 a_res8_3 a_res8_4 a_res8_5 a_res8_6
    refine (below_any W0 W9 g _ xs (all.length : Int) (by omega) (by omega) HSW.out hby hx bw9.out hg cu9.out).mono ?_
    rintro e W10 ⟨n, rfl, hn0, hn9, d10⟩
    have z10 : W9.heap.size ≤ W10.heap.size := d10.apart.size
    have B10 : Hid (Apart g (g + 1) w W10) := B9.out.trans d10.apart
    have cu10 : Hid (Cur W10 (g) vb xs.length) := d10.cur
    have bw10 : Hid (Below W0.heap.size W0 W10) := d10.below
    have r_res10 : Hid (W10.heap[w.heap.size]? = some (.cells #[.int .i64 0, .int .i64 0, .int .i64 0, .int .i64 0, .string ⟨#[]⟩, .int .i64 0, .slice none 0 0] 28 (0, 0))) := drawn_row r_res9.out d10 (by omega)
    have r_m10 : Hid (W10.heap[W8.heap.size]? = some (.cells #[.int .i64 Kd, .int .i64 f, .int .i64 T, .int .i64 M.n, .string M.r, .int .i64 0, .slice none 0 0] 28 (0, 0))) := drawn_row r_m9.out d10 (by omega)
    have o_all10 : Hid (Own W10 (W1.heap.size) (W4.heap.size) 9 (.slice (some ⟨ga, 0, none⟩) all.length cap_all) (ss all)) := Own.drawn o_all9.out d10 (by omega) (by omega)
    have c_res10_0 : W10.cell? ⟨w.heap.size, 0, none⟩ = some (.int .i64 0) := row_at r_res10.out 0
    have c_res10_1 : W10.cell? ⟨w.heap.size, 1, none⟩ = some (.int .i64 0) := row_at r_res10.out 1
    have c_res10_2 : W10.cell? ⟨w.heap.size, 2, none⟩ = some (.int .i64 0) := row_at r_res10.out 2
    have c_res10_3 : W10.cell? ⟨w.heap.size, 3, none⟩ = some (.int .i64 0) := row_at r_res10.out 3
    have c_res10_4 : W10.cell? ⟨w.heap.size, 4, none⟩ = some (.string ⟨#[]⟩) := row_at r_res10.out 4
    have c_res10_5 : W10.cell? ⟨w.heap.size, 5, none⟩ = some (.int .i64 0) := row_at r_res10.out 5
    have c_res10_6 : W10.cell? ⟨w.heap.size, 6, none⟩ = some (.slice none 0 0) := row_at r_res10.out 6
    have c_m10_0 : W10.cell? ⟨W8.heap.size, 0, none⟩ = some (.int .i64 Kd) := row_at r_m10.out 0
    have c_m10_1 : W10.cell? ⟨W8.heap.size, 1, none⟩ = some (.int .i64 f) := row_at r_m10.out 1
    have c_m10_2 : W10.cell? ⟨W8.heap.size, 2, none⟩ = some (.int .i64 T) := row_at r_m10.out 2
    have c_m10_3 : W10.cell? ⟨W8.heap.size, 3, none⟩ = some (.int .i64 M.n) := row_at r_m10.out 3
    have c_m10_4 : W10.cell? ⟨W8.heap.size, 4, none⟩ = some (.string M.r) := row_at r_m10.out 4
    have c_m10_5 : W10.cell? ⟨W8.heap.size, 5, none⟩ = some (.int .i64 0) := row_at r_m10.out 5
    have c_m10_6 : W10.cell? ⟨W8.heap.size, 6, none⟩ = some (.slice none 0 0) := row_at r_m10.out 6
    clear r_res9 c_res9_0 c_res9_1 c_res9_2 c_res9_3 c_res9_4 c_res9_5 c_res9_6 r_m9 c_m9_0 c_m9_1 c_m9_2 c_m9_3 c_m9_4 c_m9_5 c_m9_6 o_all9
    clear cu9 bw9 d10
    go_wp2_with (refine wpl_oneG rfl 3 _ _ rfl (W8.heap.size) 5 (.int .i64 n) rfl rfl [.int .i64 Kd, .int .i64 f, .int .i64 T, .int .i64 M.n, .string M.r, .int .i64 0, .slice none 0 0] 28 r_m10.out (Nat.le_of_ble_eq_true rfl) (by kernel_rfl) rfl [.int .i64 Kd, .int .i64 f, .int .i64 T, .int .i64 M.n, .string M.r, .int .i64 n, .slice none 0 0] rfl ?_)
    intro W11 r_m11 g11
    have cu11 : Hid (Cur W11 (g) vb xs.length) := cu10.out.gro g11 (fun h9 => by injection h9 with h9; omega)
    have bw11 : Hid (Below W0.heap.size W0 W11) := belowGro bw10.out g11 bw10.out.size (fun k9 h9 => by injection h9 with h9; omega)
    clear cu10 bw10
    have r_m11 : Hid (W11.heap[W8.heap.size]? = some (.cells #[.int .i64 Kd, .int .i64 f, .int .i64 T, .int .i64 M.n, .string M.r, .int .i64 n, .slice none 0 0] 28 (0, 0))) := r_m11
    have z11 : W10.heap.size ≤ W11.heap.size := g11.size
    have B11 : Hid (Apart g (g + 1) w W11) := Apart.groM B10.out g11 (fun k9 h9 => by injection h9 with h9; have := B10.out.size; omega)
    have r_res11 : Hid (W11.heap[w.heap.size]? = some (.cells #[.int .i64 0, .int .i64 0, .int .i64 0, .int .i64 0, .string ⟨#[]⟩, .int .i64 0, .slice none 0 0] 28 (0, 0))) := rowGro r_res10.out g11 (fun h9 => by injection h9 with h9; omega)
    have o_all11 : Hid (Own W11 (W1.heap.size) (W4.heap.size) 9 (.slice (some ⟨ga, 0, none⟩) all.length cap_all) (ss all)) := Own.gro o_all10.out g11 (fun k9 h9 e9 => Own.neRow o_all10.out r_m10.out (by decide) (h9.trans e9.symm))
    have c_res11_0 : W11.cell? ⟨w.heap.size, 0, none⟩ = some (.int .i64 0) := row_at r_res11.out 0
    have c_res11_1 : W11.cell? ⟨w.heap.size, 1, none⟩ = some (.int .i64 0) := row_at r_res11.out 1
    have c_res11_2 : W11.cell? ⟨w.heap.size, 2, none⟩ = some (.int .i64 0) := row_at r_res11.out 2
    have c_res11_3 : W11.cell? ⟨w.heap.size, 3, none⟩ = some (.int .i64 0) := row_at r_res11.out 3
    have c_res11_4 : W11.cell? ⟨w.heap.size, 4, none⟩ = some (.string ⟨#[]⟩) := row_at r_res11.out 4
    have c_res11_5 : W11.cell? ⟨w.heap.size, 5, none⟩ = some (.int .i64 0) := row_at r_res11.out 5
    have c_res11_6 : W11.cell? ⟨w.heap.size, 6, none⟩ = some (.slice none 0 0) := row_at r_res11.out 6
    have c_m11_0 : W11.cell? ⟨W8.heap.size, 0, none⟩ = some (.int .i64 Kd) := row_at r_m11.out 0
    have c_m11_1 : W11.cell? ⟨W8.heap.size, 1, none⟩ = some (.int .i64 f) := row_at r_m11.out 1
    have c_m11_2 : W11.cell? ⟨W8.heap.size, 2, none⟩ = some (.int .i64 T) := row_at r_m11.out 2
    have c_m11_3 : W11.cell? ⟨W8.heap.size, 3, none⟩ = some (.int .i64 M.n) := row_at r_m11.out 3
    have c_m11_4 : W11.cell? ⟨W8.heap.size, 4, none⟩ = some (.string M.r) := row_at r_m11.out 4
    have c_m11_5 : W11.cell? ⟨W8.heap.size, 5, none⟩ = some (.int .i64 n) := row_at r_m11.out 5
    have c_m11_6 : W11.cell? ⟨W8.heap.size, 6, none⟩ = some (.slice none 0 0) := row_at r_m11.out 6
    clear r_res10 c_res10_0 c_res10_1 c_res10_2 c_res10_3 c_res10_4 c_res10_5 c_res10_6 o_all10
    clear r_m10 c_m10_0 c_m10_1 c_m10_2 c_m10_3 c_m10_4 c_m10_5 c_m10_6
    clear g11
    by_cases k3 : Kd = 3
    · have k3b : (Kd == 3) = true := by rw [k3]; rfl
      have HK3 : Hid (Kd = 3) := k3
      clear k3 k1
      obtain ⟨d, rfl⟩ : ∃ d : Nat, n = (d : Int) := ⟨n.toNat, by omega⟩
      have hd9 : d < all.length := by omega
      have hcd : ¬ cap_all = d := by omega
      have hdl : d ≤ all.length := by omega
      go_wp2_with fail
      refine wp_region_held_drew (S := fun w' => w'.cell? ⟨W8.heap.size, 5, none⟩ = some (.int .i64 (d : Int))) (by kernel_rfl) c_m11_5 (fun hHeld => ?_)
      obtain ⟨W12, HW12, b12⟩ : ∃ X, Hid (W11.drew = X) ∧ Below W11.heap.size W11 X := ⟨_, rfl, Below.drew (Below.refl _ _)⟩
      have HHW12 := HW12.out
      rw [HHW12] at hHeld ⊢
      clear HHW12
      have z12 : W11.heap.size ≤ W12.heap.size := b12.size
      have B12 : Hid (Apart g (g + 1) w W12) := B11.out.grow b12
      have r_res12 : Hid (W12.heap[w.heap.size]? = some (.cells #[.int .i64 0, .int .i64 0, .int .i64 0, .int .i64 0, .string ⟨#[]⟩, .int .i64 0, .slice none 0 0] 28 (0, 0))) := rowKeep r_res11.out b12
      have r_m12 : Hid (W12.heap[W8.heap.size]? = some (.cells #[.int .i64 Kd, .int .i64 f, .int .i64 T, .int .i64 M.n, .string M.r, .int .i64 (d : Int), .slice none 0 0] 28 (0, 0))) := rowKeep r_m11.out b12
      have o_all12 : Hid (Own W12 (W1.heap.size) (W4.heap.size) 9 (.slice (some ⟨ga, 0, none⟩) all.length cap_all) (ss all)) := Own.later o_all11.out b12 (by omega)
      have c_res12_0 : W12.cell? ⟨w.heap.size, 0, none⟩ = some (.int .i64 0) := row_at r_res12.out 0
      have c_res12_1 : W12.cell? ⟨w.heap.size, 1, none⟩ = some (.int .i64 0) := row_at r_res12.out 1
      have c_res12_2 : W12.cell? ⟨w.heap.size, 2, none⟩ = some (.int .i64 0) := row_at r_res12.out 2
      have c_res12_3 : W12.cell? ⟨w.heap.size, 3, none⟩ = some (.int .i64 0) := row_at r_res12.out 3
      have c_res12_4 : W12.cell? ⟨w.heap.size, 4, none⟩ = some (.string ⟨#[]⟩) := row_at r_res12.out 4
      have c_res12_5 : W12.cell? ⟨w.heap.size, 5, none⟩ = some (.int .i64 0) := row_at r_res12.out 5
      have c_res12_6 : W12.cell? ⟨w.heap.size, 6, none⟩ = some (.slice none 0 0) := row_at r_res12.out 6
      have c_m12_0 : W12.cell? ⟨W8.heap.size, 0, none⟩ = some (.int .i64 Kd) := row_at r_m12.out 0
      have c_m12_1 : W12.cell? ⟨W8.heap.size, 1, none⟩ = some (.int .i64 f) := row_at r_m12.out 1
      have c_m12_2 : W12.cell? ⟨W8.heap.size, 2, none⟩ = some (.int .i64 T) := row_at r_m12.out 2
      have c_m12_3 : W12.cell? ⟨W8.heap.size, 3, none⟩ = some (.int .i64 M.n) := row_at r_m12.out 3
      have c_m12_4 : W12.cell? ⟨W8.heap.size, 4, none⟩ = some (.string M.r) := row_at r_m12.out 4
      have c_m12_5 : W12.cell? ⟨W8.heap.size, 5, none⟩ = some (.int .i64 (d : Int)) := row_at r_m12.out 5
      have c_m12_6 : W12.cell? ⟨W8.heap.size, 6, none⟩ = some (.slice none 0 0) := row_at r_m12.out 6
      clear r_res11 c_res11_0 c_res11_1 c_res11_2 c_res11_3 c_res11_4 c_res11_5 c_res11_6 r_m11 c_m11_0 c_m11_1 c_m11_2 c_m11_3 c_m11_4 c_m11_5 c_m11_6 o_all11
      have cu12 : Hid (Cur W12 (g) vb xs.length) := cu11.out.keep b12
      have bw12 : Hid (Below W0.heap.size W0 W12) := bw11.out.trans (b12.mono bw11.out.size)
      clear cu11 bw11
      (refine wpAnyH_take (i := 0) (v := ?v0x20) rfl (by kernel_rfl) (by kernel_rfl) (by kernel_rfl) (fun _ _ _ h => h) (Or.inl ⟨by rfl, ?hy0x20⟩) (by assumption) ?rest0x20; case hy0x20 => (intro w hSw; (try dsimp only at hSw); go_split_ands; go_simp; (try with_reducible rfl)))
      try simp only [Act.put, List.setIfInBounds_toArray, List.set_cons_zero, List.set_cons_succ, List.getElem_toArray, List.getElem_cons_zero, List.getElem_cons_succ]
      (refine wpAnyH_take (i := 2) (v := ?v2x21) rfl (by kernel_rfl) (by kernel_rfl) (by kernel_rfl) (fun _ _ _ h => h) (Or.inl ⟨by rfl, ?hy2x21⟩) (by assumption) ?rest2x21; case hy2x21 => (intro w hSw; (try dsimp only at hSw); go_split_ands; go_simp; (try with_reducible rfl)))
      try simp only [Act.put, List.setIfInBounds_toArray, List.set_cons_zero, List.set_cons_succ, List.getElem_toArray, List.getElem_cons_zero, List.getElem_cons_succ]
      (refine wpAnyH_take (i := 3) (v := ?v3x22) rfl (by kernel_rfl) (by kernel_rfl) (by kernel_rfl) (fun _ _ _ h => h) (Or.inl ⟨by rfl, ?hy3x22⟩) (by assumption) ?rest3x22; case hy3x22 => (intro w hSw; (try dsimp only at hSw); go_split_ands; go_simp; (try with_reducible rfl)))
      try simp only [Act.put, List.setIfInBounds_toArray, List.set_cons_zero, List.set_cons_succ, List.getElem_toArray, List.getElem_cons_zero, List.getElem_cons_succ]
      (refine wpAnyH_take (i := 4) (v := ?v4x23) rfl (by kernel_rfl) (by kernel_rfl) (by kernel_rfl) (fun _ _ _ h => h) (Or.inl ⟨by rfl, ?hy4x23⟩) (by assumption) ?rest4x23; case hy4x23 => (intro w hSw; (try dsimp only at hSw); go_split_ands; go_simp; (try with_reducible rfl)))
      try simp only [Act.put, List.setIfInBounds_toArray, List.set_cons_zero, List.set_cons_succ, List.getElem_toArray, List.getElem_cons_zero, List.getElem_cons_succ]
      (refine wpAnyH_take (i := 5) (v := ?v5x24) rfl (by kernel_rfl) (by kernel_rfl) (by kernel_rfl) (fun _ _ _ h => h) (Or.inl ⟨by rfl, ?hy5x24⟩) (by assumption) ?rest5x24; case hy5x24 => (intro w hSw; (try dsimp only at hSw); go_split_ands; go_simp; (try with_reducible rfl)))
      try simp only [Act.put, List.setIfInBounds_toArray, List.set_cons_zero, List.set_cons_succ, List.getElem_toArray, List.getElem_cons_zero, List.getElem_cons_succ]
      refine wpAnyH_ready (rs := [1]) (by kernel_rfl) (by simp) ?_
      refine AllReadyH.cons rfl (fun K hK => ?_) AllReadyH.nil
      go_simp
      refine hK.out _ _ hHeld (fun hHeld => ?_)
      clear hK K
      try simp only [Act.put, List.setIfInBounds_toArray, List.set_cons_zero, List.set_cons_succ, List.getElem_toArray, List.getElem_cons_zero, List.getElem_cons_succ]
      have o_z012 : Hid (Own W12 (w.heap.size) (w.heap.size) 9 (.slice none 0 0) (ss [])) := nil9M _ _ _
      refine wpAnyH_ready (rs := [6]) (by kernel_rfl) (by simp) ?_
      refine AllReadyH.cons rfl (fun K hK => ?_) AllReadyH.nil
      have c6_13 : (ss []).length + (ss (all.drop d)).length ≤ maxLen := by rw [ss_len, ss_len]; unfold maxLen; (try simp only [List.length_nil]); (try rw [List.length_drop]); omega
      have c7_13 : ((ss []).length + (ss (all.drop d)).length) * 16 ≤ 140737488355328 := by rw [ss_len, ss_len]; (try simp only [List.length_nil]); (try rw [List.length_drop]); omega
      refine step_appG (by rfl) (.tmp 32) (.tmp 36) 26 (by rfl) 9 i9 (.string ⟨#[]⟩) 16 Try.underlying26 hi9 hz9a hz9b hz9c rfl (w.heap.size) _ (ss []) (by rfl) (Own.mono o_z012.out (Nat.le_refl _) (by omega)) _ (by rfl) (ss (all.drop d)) ((by have h9 := slBack o_all12.out.sl d (by rw [ss_len]; omega); rw [Nat.zero_add] at h9; have e9 : ss (all.drop d) = (ss all).drop d := by { unfold ss; rw [List.map_drop] }; rw [e9]; exact h9)) (ss_one (all.drop d)) c6_13 c7_13 (by omega) ?_
      intro v_p W13 o_p13 g13
      refine hK.out _ _ (cellGro hHeld g13 (Own.neRow o_z012.out r_m12.out (by decide))) (fun hHeld => ?_)
      clear hK K
      try simp only [Act.put, List.setIfInBounds_toArray, List.set_cons_zero, List.set_cons_succ, List.getElem_toArray, List.getElem_cons_zero, List.getElem_cons_succ]
      have o_p13 : Own W13 (w.heap.size) W13.heap.size 9 v_p (ss (all.drop d)) := o_p13
      have o_p13h : Hid (Own W13 (w.heap.size) W13.heap.size 9 v_p (ss (all.drop d))) := o_p13
      have cu13 : Hid (Cur W13 (g) vb xs.length) := cu12.out.groOwn o_z012.out g13 (by decide)
      have bw13 : Hid (Below W0.heap.size W0 W13) := belowGro bw12.out g13 bw12.out.size (Own.low o_z012.out (by omega))
      clear cu12 bw12
      clear o_p13
      have o_p13 := o_p13h
      clear o_p13h
      obtain ⟨ao_p, L_p, cap_p, rfl, _, _⟩ := Mem.Own.form o_p13.out
      have z13 : W12.heap.size ≤ W13.heap.size := g13.size
      have B13 : Hid (Apart g (g + 1) w W13) := Apart.groM B12.out g13 (Own.low o_z012.out (by have := B12.out.size; omega))
      have r_res13 : Hid (W13.heap[w.heap.size]? = some (.cells #[.int .i64 0, .int .i64 0, .int .i64 0, .int .i64 0, .string ⟨#[]⟩, .int .i64 0, .slice none 0 0] 28 (0, 0))) := rowGro r_res12.out g13 (Own.neRow o_z012.out r_res12.out (by decide))
      have r_m13 : Hid (W13.heap[W8.heap.size]? = some (.cells #[.int .i64 Kd, .int .i64 f, .int .i64 T, .int .i64 M.n, .string M.r, .int .i64 (d : Int), .slice none 0 0] 28 (0, 0))) := rowGro r_m12.out g13 (Own.neRow o_z012.out r_m12.out (by decide))
      have o_all13 : Hid (Own W13 (W1.heap.size) (W4.heap.size) 9 (.slice (some ⟨ga, 0, none⟩) all.length cap_all) (ss all)) := Own.gro o_all12.out g13 (Own.neFar o_z012.out o_all12.out (by omega))
      have c_res13_0 : W13.cell? ⟨w.heap.size, 0, none⟩ = some (.int .i64 0) := row_at r_res13.out 0
      have c_res13_1 : W13.cell? ⟨w.heap.size, 1, none⟩ = some (.int .i64 0) := row_at r_res13.out 1
      have c_res13_2 : W13.cell? ⟨w.heap.size, 2, none⟩ = some (.int .i64 0) := row_at r_res13.out 2
      have c_res13_3 : W13.cell? ⟨w.heap.size, 3, none⟩ = some (.int .i64 0) := row_at r_res13.out 3
      have c_res13_4 : W13.cell? ⟨w.heap.size, 4, none⟩ = some (.string ⟨#[]⟩) := row_at r_res13.out 4
      have c_res13_5 : W13.cell? ⟨w.heap.size, 5, none⟩ = some (.int .i64 0) := row_at r_res13.out 5
      have c_res13_6 : W13.cell? ⟨w.heap.size, 6, none⟩ = some (.slice none 0 0) := row_at r_res13.out 6
      have c_m13_0 : W13.cell? ⟨W8.heap.size, 0, none⟩ = some (.int .i64 Kd) := row_at r_m13.out 0
      have c_m13_1 : W13.cell? ⟨W8.heap.size, 1, none⟩ = some (.int .i64 f) := row_at r_m13.out 1
      have c_m13_2 : W13.cell? ⟨W8.heap.size, 2, none⟩ = some (.int .i64 T) := row_at r_m13.out 2
      have c_m13_3 : W13.cell? ⟨W8.heap.size, 3, none⟩ = some (.int .i64 M.n) := row_at r_m13.out 3
      have c_m13_4 : W13.cell? ⟨W8.heap.size, 4, none⟩ = some (.string M.r) := row_at r_m13.out 4
      have c_m13_5 : W13.cell? ⟨W8.heap.size, 5, none⟩ = some (.int .i64 (d : Int)) := row_at r_m13.out 5
      have c_m13_6 : W13.cell? ⟨W8.heap.size, 6, none⟩ = some (.slice none 0 0) := row_at r_m13.out 6
      clear r_res12 c_res12_0 c_res12_1 c_res12_2 c_res12_3 c_res12_4 c_res12_5 c_res12_6 r_m12 c_m12_0 c_m12_1 c_m12_2 c_m12_3 c_m12_4 c_m12_5 c_m12_6 o_all12 o_z012
      clear g13 c6_13 c7_13
      (refine wpAnyH_take (i := 7) (v := ?v7x25) rfl (by kernel_rfl) (by kernel_rfl) (by kernel_rfl) (fun _ _ _ h => h) (Or.inl ⟨by rfl, ?hy7x25⟩) (by assumption) ?rest7x25; case hy7x25 => (intro w hSw; (try dsimp only at hSw); go_split_ands; go_simp; (try with_reducible rfl)))
      try simp only [Act.put, List.setIfInBounds_toArray, List.set_cons_zero, List.set_cons_succ, List.getElem_toArray, List.getElem_cons_zero, List.getElem_cons_succ]
      refine wpAnyH_ready (rs := [8]) (by kernel_rfl) (by simp) ?_
      refine AllReadyH.cons rfl (fun K hK => ?_) AllReadyH.nil
      rw [if_pos (by rfl)]
      refine wp_oneG 26 _ _ rfl (W8.heap.size) 6 (.slice ao_p L_p cap_p) rfl rfl [.int .i64 Kd, .int .i64 f, .int .i64 T, .int .i64 M.n, .string M.r, .int .i64 (d : Int), .slice none 0 0] 28 r_m13.out (Nat.le_of_ble_eq_true rfl) (by kernel_rfl) rfl [.int .i64 Kd, .int .i64 f, .int .i64 T, .int .i64 M.n, .string M.r, .int .i64 (d : Int), .slice ao_p L_p cap_p] rfl ?_
      intro W14 r_m14 g14
      refine hK.out _ _ (row_at r_m14 5) (fun hHeld => ?_)
      clear hK K
      try simp only [Act.put, List.setIfInBounds_toArray, List.set_cons_zero, List.set_cons_succ, List.getElem_toArray, List.getElem_cons_zero, List.getElem_cons_succ]
      have cu14 : Hid (Cur W14 (g) vb xs.length) := cu13.out.gro g14 (fun h9 => by injection h9 with h9; omega)
      have bw14 : Hid (Below W0.heap.size W0 W14) := belowGro bw13.out g14 bw13.out.size (fun k9 h9 => by injection h9 with h9; omega)
      clear cu13 bw13
      have r_m14 : Hid (W14.heap[W8.heap.size]? = some (.cells #[.int .i64 Kd, .int .i64 f, .int .i64 T, .int .i64 M.n, .string M.r, .int .i64 (d : Int), .slice ao_p L_p cap_p] 28 (0, 0))) := r_m14
      have z14 : W13.heap.size ≤ W14.heap.size := g14.size
      have B14 : Hid (Apart g (g + 1) w W14) := Apart.groM B13.out g14 (fun k9 h9 => by injection h9 with h9; have := B13.out.size; omega)
      have r_res14 : Hid (W14.heap[w.heap.size]? = some (.cells #[.int .i64 0, .int .i64 0, .int .i64 0, .int .i64 0, .string ⟨#[]⟩, .int .i64 0, .slice none 0 0] 28 (0, 0))) := rowGro r_res13.out g14 (fun h9 => by injection h9 with h9; omega)
      have o_all14 : Hid (Own W14 (W1.heap.size) (W4.heap.size) 9 (.slice (some ⟨ga, 0, none⟩) all.length cap_all) (ss all)) := Own.gro o_all13.out g14 (fun k9 h9 e9 => Own.neRow o_all13.out r_m13.out (by decide) (h9.trans e9.symm))
      have o_p14 : Hid (Own W14 (w.heap.size) (W13.heap.size) 9 (.slice ao_p L_p cap_p) (ss (all.drop d))) := Own.gro o_p13.out g14 (fun k9 h9 e9 => Own.neRow o_p13.out r_m13.out (by decide) (h9.trans e9.symm))
      have c_res14_0 : W14.cell? ⟨w.heap.size, 0, none⟩ = some (.int .i64 0) := row_at r_res14.out 0
      have c_res14_1 : W14.cell? ⟨w.heap.size, 1, none⟩ = some (.int .i64 0) := row_at r_res14.out 1
      have c_res14_2 : W14.cell? ⟨w.heap.size, 2, none⟩ = some (.int .i64 0) := row_at r_res14.out 2
      have c_res14_3 : W14.cell? ⟨w.heap.size, 3, none⟩ = some (.int .i64 0) := row_at r_res14.out 3
      have c_res14_4 : W14.cell? ⟨w.heap.size, 4, none⟩ = some (.string ⟨#[]⟩) := row_at r_res14.out 4
      have c_res14_5 : W14.cell? ⟨w.heap.size, 5, none⟩ = some (.int .i64 0) := row_at r_res14.out 5
      have c_res14_6 : W14.cell? ⟨w.heap.size, 6, none⟩ = some (.slice none 0 0) := row_at r_res14.out 6
      have c_m14_0 : W14.cell? ⟨W8.heap.size, 0, none⟩ = some (.int .i64 Kd) := row_at r_m14.out 0
      have c_m14_1 : W14.cell? ⟨W8.heap.size, 1, none⟩ = some (.int .i64 f) := row_at r_m14.out 1
      have c_m14_2 : W14.cell? ⟨W8.heap.size, 2, none⟩ = some (.int .i64 T) := row_at r_m14.out 2
      have c_m14_3 : W14.cell? ⟨W8.heap.size, 3, none⟩ = some (.int .i64 M.n) := row_at r_m14.out 3
      have c_m14_4 : W14.cell? ⟨W8.heap.size, 4, none⟩ = some (.string M.r) := row_at r_m14.out 4
      have c_m14_5 : W14.cell? ⟨W8.heap.size, 5, none⟩ = some (.int .i64 (d : Int)) := row_at r_m14.out 5
      have c_m14_6 : W14.cell? ⟨W8.heap.size, 6, none⟩ = some (.slice ao_p L_p cap_p) := row_at r_m14.out 6
      clear r_res13 c_res13_0 c_res13_1 c_res13_2 c_res13_3 c_res13_4 c_res13_5 c_res13_6 o_all13 o_p13
      clear r_m13 c_m13_0 c_m13_1 c_m13_2 c_m13_3 c_m13_4 c_m13_5 c_m13_6
      clear g14
      refine wpAnyH_done (by kernel_rfl) ?_ _
      clear hHeld
      go_wp2_with ((first | (refine wpList_load_row rfl 28 _ rfl (W8.heap.size) rfl 28 (mc ⟨Kd, f, T, M, (d : Int), all.drop d⟩ (.slice ao_p L_p cap_p)) (0, 0) _ r_m14.out Try.underlying28 rfl (sizeM _ _) ?_) | (refine wpl_partG rfl 28 _ _ rfl (w.heap.size) 0 (mc ⟨Kd, f, T, M, (d : Int), all.drop d⟩ (.slice ao_p L_p cap_p)) rfl rfl [.int .i64 0, .int .i64 0, .int .i64 0, .int .i64 0, .string ⟨#[]⟩, .int .i64 0, .slice none 0 0] 28 r_res14.out (Nat.le_of_ble_eq_true rfl) (sizeM _ _) (oneM _ rfl) [.int .i64 Kd, .int .i64 f, .int .i64 T, .int .i64 M.n, .string M.r, .int .i64 (d : Int), .slice ao_p L_p cap_p] rfl ?_)))
      intro W15 r_res15 g15
      have cu15 : Hid (Cur W15 (g) vb xs.length) := cu14.out.gro g15 (fun h9 => by injection h9 with h9; omega)
      have bw15 : Hid (Below W0.heap.size W0 W15) := belowGro bw14.out g15 bw14.out.size (fun k9 h9 => by injection h9 with h9; omega)
      clear cu14 bw14
      have r_res15 : Hid (W15.heap[w.heap.size]? = some (.cells #[.int .i64 Kd, .int .i64 f, .int .i64 T, .int .i64 M.n, .string M.r, .int .i64 (d : Int), .slice ao_p L_p cap_p] 28 (0, 0))) := r_res15
      have z15 : W14.heap.size ≤ W15.heap.size := g15.size
      have B15 : Hid (Apart g (g + 1) w W15) := Apart.groM B14.out g15 (fun k9 h9 => by injection h9 with h9; have := B14.out.size; omega)
      have r_m15 : Hid (W15.heap[W8.heap.size]? = some (.cells #[.int .i64 Kd, .int .i64 f, .int .i64 T, .int .i64 M.n, .string M.r, .int .i64 (d : Int), .slice ao_p L_p cap_p] 28 (0, 0))) := rowGro r_m14.out g15 (fun h9 => by injection h9 with h9; omega)
      have o_all15 : Hid (Own W15 (W1.heap.size) (W4.heap.size) 9 (.slice (some ⟨ga, 0, none⟩) all.length cap_all) (ss all)) := Own.gro o_all14.out g15 (fun k9 h9 e9 => Own.neRow o_all14.out r_res14.out (by decide) (h9.trans e9.symm))
      have o_p15 : Hid (Own W15 (w.heap.size) (W13.heap.size) 9 (.slice ao_p L_p cap_p) (ss (all.drop d))) := Own.gro o_p14.out g15 (fun k9 h9 e9 => Own.neRow o_p14.out r_res14.out (by decide) (h9.trans e9.symm))
      have c_res15_0 : W15.cell? ⟨w.heap.size, 0, none⟩ = some (.int .i64 Kd) := row_at r_res15.out 0
      have c_res15_1 : W15.cell? ⟨w.heap.size, 1, none⟩ = some (.int .i64 f) := row_at r_res15.out 1
      have c_res15_2 : W15.cell? ⟨w.heap.size, 2, none⟩ = some (.int .i64 T) := row_at r_res15.out 2
      have c_res15_3 : W15.cell? ⟨w.heap.size, 3, none⟩ = some (.int .i64 M.n) := row_at r_res15.out 3
      have c_res15_4 : W15.cell? ⟨w.heap.size, 4, none⟩ = some (.string M.r) := row_at r_res15.out 4
      have c_res15_5 : W15.cell? ⟨w.heap.size, 5, none⟩ = some (.int .i64 (d : Int)) := row_at r_res15.out 5
      have c_res15_6 : W15.cell? ⟨w.heap.size, 6, none⟩ = some (.slice ao_p L_p cap_p) := row_at r_res15.out 6
      have c_m15_0 : W15.cell? ⟨W8.heap.size, 0, none⟩ = some (.int .i64 Kd) := row_at r_m15.out 0
      have c_m15_1 : W15.cell? ⟨W8.heap.size, 1, none⟩ = some (.int .i64 f) := row_at r_m15.out 1
      have c_m15_2 : W15.cell? ⟨W8.heap.size, 2, none⟩ = some (.int .i64 T) := row_at r_m15.out 2
      have c_m15_3 : W15.cell? ⟨W8.heap.size, 3, none⟩ = some (.int .i64 M.n) := row_at r_m15.out 3
      have c_m15_4 : W15.cell? ⟨W8.heap.size, 4, none⟩ = some (.string M.r) := row_at r_m15.out 4
      have c_m15_5 : W15.cell? ⟨W8.heap.size, 5, none⟩ = some (.int .i64 (d : Int)) := row_at r_m15.out 5
      have c_m15_6 : W15.cell? ⟨W8.heap.size, 6, none⟩ = some (.slice ao_p L_p cap_p) := row_at r_m15.out 6
      clear r_m14 c_m14_0 c_m14_1 c_m14_2 c_m14_3 c_m14_4 c_m14_5 c_m14_6 o_all14 o_p14
      clear r_res14 c_res14_0 c_res14_1 c_res14_2 c_res14_3 c_res14_4 c_res14_5 c_res14_6
      go_wp2
      exact bodyPost_ret (v := .agg (mc ⟨Kd, f, T, M, (d : Int), all.drop d⟩ (.slice ao_p L_p cap_p))) (results_cell_row rfl _ _ (w.heap.size) 28 _ (0, 0) _ rfl r_res15.out Try.underlying28 rfl (sizeM _ _)) rfl ⟨⟨Kd, f, T, M, (d : Int), all.drop d⟩, .slice ao_p L_p cap_p, rfl, ⟨by simp <;> omega, by simp only; first | exact HAZ.out | (intro s hs; first | exact HAZ.out s (List.mem_of_mem_drop hs) | cases hs), hq⟩, by rw [← HK.out, ← HT.out, ← HM.out]; exact draw_ok hA1.1 hA1.2 ⟨hy0, hy3⟩ ⟨hf0, hf3⟩ ⟨ht0, ht3⟩ (Or.inr (Or.inr ⟨HK.out.trans HK3.out, ⟨by omega, by omega⟩, rfl⟩)), Own.mono o_p15.out (by omega) (by omega), ⟨cu15.out, B15.out, bw15.out⟩⟩
    · have k3b : (Kd == 3) = false := by rw [beq_eq_false_iff_ne]; exact k3
      have HK2 : Hid (Kd = 2) := by show _ = _; omega
      clear k3 k1
      go_wp2_with ((first | (refine wpList_load_row rfl 28 _ rfl (W8.heap.size) rfl 28 (mc ⟨Kd, f, T, M, n, []⟩ (.slice none 0 0)) (0, 0) _ r_m11.out Try.underlying28 rfl (sizeM _ _) ?_) | (refine wpl_partG rfl 28 _ _ rfl (w.heap.size) 0 (mc ⟨Kd, f, T, M, n, []⟩ (.slice none 0 0)) rfl rfl [.int .i64 0, .int .i64 0, .int .i64 0, .int .i64 0, .string ⟨#[]⟩, .int .i64 0, .slice none 0 0] 28 r_res11.out (Nat.le_of_ble_eq_true rfl) (sizeM _ _) (oneM _ rfl) [.int .i64 Kd, .int .i64 f, .int .i64 T, .int .i64 M.n, .string M.r, .int .i64 n, .slice none 0 0] rfl ?_)))
      intro W12 r_res12 g12
      have cu12 : Hid (Cur W12 (g) vb xs.length) := cu11.out.gro g12 (fun h9 => by injection h9 with h9; omega)
      have bw12 : Hid (Below W0.heap.size W0 W12) := belowGro bw11.out g12 bw11.out.size (fun k9 h9 => by injection h9 with h9; omega)
      clear cu11 bw11
      have r_res12 : Hid (W12.heap[w.heap.size]? = some (.cells #[.int .i64 Kd, .int .i64 f, .int .i64 T, .int .i64 M.n, .string M.r, .int .i64 n, .slice none 0 0] 28 (0, 0))) := r_res12
      have z12 : W11.heap.size ≤ W12.heap.size := g12.size
      have B12 : Hid (Apart g (g + 1) w W12) := Apart.groM B11.out g12 (fun k9 h9 => by injection h9 with h9; have := B11.out.size; omega)
      have r_m12 : Hid (W12.heap[W8.heap.size]? = some (.cells #[.int .i64 Kd, .int .i64 f, .int .i64 T, .int .i64 M.n, .string M.r, .int .i64 n, .slice none 0 0] 28 (0, 0))) := rowGro r_m11.out g12 (fun h9 => by injection h9 with h9; omega)
      have o_all12 : Hid (Own W12 (W1.heap.size) (W4.heap.size) 9 (.slice (some ⟨ga, 0, none⟩) all.length cap_all) (ss all)) := Own.gro o_all11.out g12 (fun k9 h9 e9 => Own.neRow o_all11.out r_res11.out (by decide) (h9.trans e9.symm))
      have c_res12_0 : W12.cell? ⟨w.heap.size, 0, none⟩ = some (.int .i64 Kd) := row_at r_res12.out 0
      have c_res12_1 : W12.cell? ⟨w.heap.size, 1, none⟩ = some (.int .i64 f) := row_at r_res12.out 1
      have c_res12_2 : W12.cell? ⟨w.heap.size, 2, none⟩ = some (.int .i64 T) := row_at r_res12.out 2
      have c_res12_3 : W12.cell? ⟨w.heap.size, 3, none⟩ = some (.int .i64 M.n) := row_at r_res12.out 3
      have c_res12_4 : W12.cell? ⟨w.heap.size, 4, none⟩ = some (.string M.r) := row_at r_res12.out 4
      have c_res12_5 : W12.cell? ⟨w.heap.size, 5, none⟩ = some (.int .i64 n) := row_at r_res12.out 5
      have c_res12_6 : W12.cell? ⟨w.heap.size, 6, none⟩ = some (.slice none 0 0) := row_at r_res12.out 6
      have c_m12_0 : W12.cell? ⟨W8.heap.size, 0, none⟩ = some (.int .i64 Kd) := row_at r_m12.out 0
      have c_m12_1 : W12.cell? ⟨W8.heap.size, 1, none⟩ = some (.int .i64 f) := row_at r_m12.out 1
      have c_m12_2 : W12.cell? ⟨W8.heap.size, 2, none⟩ = some (.int .i64 T) := row_at r_m12.out 2
      have c_m12_3 : W12.cell? ⟨W8.heap.size, 3, none⟩ = some (.int .i64 M.n) := row_at r_m12.out 3
      have c_m12_4 : W12.cell? ⟨W8.heap.size, 4, none⟩ = some (.string M.r) := row_at r_m12.out 4
      have c_m12_5 : W12.cell? ⟨W8.heap.size, 5, none⟩ = some (.int .i64 n) := row_at r_m12.out 5
      have c_m12_6 : W12.cell? ⟨W8.heap.size, 6, none⟩ = some (.slice none 0 0) := row_at r_m12.out 6
      clear r_m11 c_m11_0 c_m11_1 c_m11_2 c_m11_3 c_m11_4 c_m11_5 c_m11_6 o_all11
      clear r_res11 c_res11_0 c_res11_1 c_res11_2 c_res11_3 c_res11_4 c_res11_5 c_res11_6
      go_wp2
      exact bodyPost_ret (v := .agg (mc ⟨Kd, f, T, M, n, []⟩ (.slice none 0 0))) (results_cell_row rfl _ _ (w.heap.size) 28 _ (0, 0) _ rfl r_res12.out Try.underlying28 rfl (sizeM _ _)) rfl ⟨⟨Kd, f, T, M, n, []⟩, .slice none 0 0, rfl, ⟨by simp <;> omega, by simp only; first | exact HAZ.out | (intro s hs; first | exact HAZ.out s (List.mem_of_mem_drop hs) | cases hs), hq⟩, by rw [← HK.out, ← HT.out, ← HM.out]; exact draw_ok hA1.1 hA1.2 ⟨hy0, hy3⟩ ⟨hf0, hf3⟩ ⟨ht0, ht3⟩ (Or.inr (Or.inl ⟨HK.out.trans HK2.out, ⟨hn0, hn9⟩, rfl⟩)), nil9M _ _ _, ⟨cu12.out, B12.out, bw12.out⟩⟩

set_option maxRecDepth 1000000 in
set_option maxHeartbeats 16000000 in
theorem copy13 (w : World) (v : Value) (m : Ms) (hs : Sl w v (ss m.x)) (hl : m.x.length ≤ 1000000000) :
    Calls Try.prog 68 #[.agg #[.int .i64 m.k, .int .i64 m.f, .int .i64 m.t, .int .i64 m.h.n, .string m.h.r, .int .i64 m.n, v]] w fun e w' => ∃ v', e = .returned (.agg #[.int .i64 m.k, .int .i64 m.f, .int .i64 m.t, .int .i64 m.h.n, .string m.h.r, .int .i64 m.n, v']) ∧ Own w' w.heap.size w'.heap.size 9 v' (ss m.x) ∧ Below w.heap.size w w' := by
  obtain ⟨k, f, t, h, n, x⟩ := m
  simp only at *
  have HS : Hid (Sl w v (ss x)) := hs
  obtain ⟨ao0, cap0, rfl, hc0⟩ := hs.form
  simp only [ss_len] at *
  clear hs
  have B0 : Hid (Below w.heap.size w w) := Below.refl _ _
  obtain ⟨i9, hi9, hz9a, hz9b, hz9c⟩ := info_parts info9t
  obtain ⟨W1, HW1, b1, y1, hS1, r_a1, r_res1⟩ : ∃ X, Hid (((w.alloc (.cells #[.int .i64 k, .int .i64 f, .int .i64 t, .int .i64 h.n, .string h.r, .int .i64 n, .slice ao0 x.length cap0] 28)).alloc (.cells #[.int .i64 0, .int .i64 0, .int .i64 0, .int .i64 0, .string ⟨#[]⟩, .int .i64 0, .slice none 0 0] 28)) = X) ∧ Below w.heap.size w X ∧ w.heap.size + 2 ≤ X.heap.size ∧ Hid (X.heap.size = w.heap.size + 1 + 1) ∧ Hid (X.heap[w.heap.size]? = some (.cells #[.int .i64 k, .int .i64 f, .int .i64 t, .int .i64 h.n, .string h.r, .int .i64 n, .slice ao0 x.length cap0] 28 (0, 0))) ∧ Hid (X.heap[w.heap.size + 1]? = some (.cells #[.int .i64 0, .int .i64 0, .int .i64 0, .int .i64 0, .string ⟨#[]⟩, .int .i64 0, .slice none 0 0] 28 (0, 0))) := ⟨_, rfl, (((Below.refl _ _).alloc (Nat.le_refl _) _).alloc (by simp) _), by simp, by show _ = _; simp, (by show _ = _; exact alloc_nth2_0 w _ _), (by show _ = _; exact alloc_nth2_1 w _ _)⟩
  have z1 : w.heap.size ≤ W1.heap.size := b1.size
  have B1 : Hid (Below w.heap.size w W1) := B0.out.trans (b1.mono B0.out.size)
  have c_a1_0 : W1.cell? ⟨w.heap.size, 0, none⟩ = some (.int .i64 k) := row_at r_a1.out 0
  have c_a1_1 : W1.cell? ⟨w.heap.size, 1, none⟩ = some (.int .i64 f) := row_at r_a1.out 1
  have c_a1_2 : W1.cell? ⟨w.heap.size, 2, none⟩ = some (.int .i64 t) := row_at r_a1.out 2
  have c_a1_3 : W1.cell? ⟨w.heap.size, 3, none⟩ = some (.int .i64 h.n) := row_at r_a1.out 3
  have c_a1_4 : W1.cell? ⟨w.heap.size, 4, none⟩ = some (.string h.r) := row_at r_a1.out 4
  have c_a1_5 : W1.cell? ⟨w.heap.size, 5, none⟩ = some (.int .i64 n) := row_at r_a1.out 5
  have c_a1_6 : W1.cell? ⟨w.heap.size, 6, none⟩ = some (.slice ao0 x.length cap0) := row_at r_a1.out 6
  have c_res1_0 : W1.cell? ⟨w.heap.size + 1, 0, none⟩ = some (.int .i64 0) := row_at r_res1.out 0
  have c_res1_1 : W1.cell? ⟨w.heap.size + 1, 1, none⟩ = some (.int .i64 0) := row_at r_res1.out 1
  have c_res1_2 : W1.cell? ⟨w.heap.size + 1, 2, none⟩ = some (.int .i64 0) := row_at r_res1.out 2
  have c_res1_3 : W1.cell? ⟨w.heap.size + 1, 3, none⟩ = some (.int .i64 0) := row_at r_res1.out 3
  have c_res1_4 : W1.cell? ⟨w.heap.size + 1, 4, none⟩ = some (.string ⟨#[]⟩) := row_at r_res1.out 4
  have c_res1_5 : W1.cell? ⟨w.heap.size + 1, 5, none⟩ = some (.int .i64 0) := row_at r_res1.out 5
  have c_res1_6 : W1.cell? ⟨w.heap.size + 1, 6, none⟩ = some (.slice none 0 0) := row_at r_res1.out 6
  go_enter Try.func68, Try.ntmps68
  have a_a1_0 : ∀ o, (W1.alloc o).cell? ⟨w.heap.size, 0, none⟩ = some (.int .i64 k) := fun o => keepR c_a1_0 ((Below.refl _ _).alloc (Nat.le_refl _) o)
  have a_a1_1 : ∀ o, (W1.alloc o).cell? ⟨w.heap.size, 1, none⟩ = some (.int .i64 f) := fun o => keepR c_a1_1 ((Below.refl _ _).alloc (Nat.le_refl _) o)
  have a_a1_2 : ∀ o, (W1.alloc o).cell? ⟨w.heap.size, 2, none⟩ = some (.int .i64 t) := fun o => keepR c_a1_2 ((Below.refl _ _).alloc (Nat.le_refl _) o)
  have a_a1_3 : ∀ o, (W1.alloc o).cell? ⟨w.heap.size, 3, none⟩ = some (.int .i64 h.n) := fun o => keepR c_a1_3 ((Below.refl _ _).alloc (Nat.le_refl _) o)
  have a_a1_4 : ∀ o, (W1.alloc o).cell? ⟨w.heap.size, 4, none⟩ = some (.string h.r) := fun o => keepR c_a1_4 ((Below.refl _ _).alloc (Nat.le_refl _) o)
  have a_a1_5 : ∀ o, (W1.alloc o).cell? ⟨w.heap.size, 5, none⟩ = some (.int .i64 n) := fun o => keepR c_a1_5 ((Below.refl _ _).alloc (Nat.le_refl _) o)
  have a_a1_6 : ∀ o, (W1.alloc o).cell? ⟨w.heap.size, 6, none⟩ = some (.slice ao0 x.length cap0) := fun o => keepR c_a1_6 ((Below.refl _ _).alloc (Nat.le_refl _) o)
  have a_res1_0 : ∀ o, (W1.alloc o).cell? ⟨w.heap.size + 1, 0, none⟩ = some (.int .i64 0) := fun o => keepR c_res1_0 ((Below.refl _ _).alloc (Nat.le_refl _) o)
  have a_res1_1 : ∀ o, (W1.alloc o).cell? ⟨w.heap.size + 1, 1, none⟩ = some (.int .i64 0) := fun o => keepR c_res1_1 ((Below.refl _ _).alloc (Nat.le_refl _) o)
  have a_res1_2 : ∀ o, (W1.alloc o).cell? ⟨w.heap.size + 1, 2, none⟩ = some (.int .i64 0) := fun o => keepR c_res1_2 ((Below.refl _ _).alloc (Nat.le_refl _) o)
  have a_res1_3 : ∀ o, (W1.alloc o).cell? ⟨w.heap.size + 1, 3, none⟩ = some (.int .i64 0) := fun o => keepR c_res1_3 ((Below.refl _ _).alloc (Nat.le_refl _) o)
  have a_res1_4 : ∀ o, (W1.alloc o).cell? ⟨w.heap.size + 1, 4, none⟩ = some (.string ⟨#[]⟩) := fun o => keepR c_res1_4 ((Below.refl _ _).alloc (Nat.le_refl _) o)
  have a_res1_5 : ∀ o, (W1.alloc o).cell? ⟨w.heap.size + 1, 5, none⟩ = some (.int .i64 0) := fun o => keepR c_res1_5 ((Below.refl _ _).alloc (Nat.le_refl _) o)
  have a_res1_6 : ∀ o, (W1.alloc o).cell? ⟨w.heap.size + 1, 6, none⟩ = some (.slice none 0 0) := fun o => keepR c_res1_6 ((Below.refl _ _).alloc (Nat.le_refl _) o)
  obtain ⟨W2, HW2, b2, hS2, o_e2⟩ : ∃ X, Hid ((W1.alloc (.cells #[] 9)) = X) ∧ Below W1.heap.size W1 X ∧ Hid (X.heap.size = w.heap.size + 1 + 1 + 1) ∧ Hid (Own X W1.heap.size X.heap.size 9 (.slice (some ⟨w.heap.size + 1 + 1, 0, none⟩) 0 0) (ss [])) := ⟨_, rfl, (Below.refl _ _).alloc (Nat.le_refl _) _, (by show _ = _; rw [← hS1.out]; simp), (by show Own _ _ _ _ _ _; have h := emptyT W1 W1.heap.size (Nat.le_refl _); rw [hS1.out] at h ⊢; exact h)⟩
  have z2 : W1.heap.size ≤ W2.heap.size := b2.size
  have B2 : Hid (Below w.heap.size w W2) := B1.out.trans (b2.mono B1.out.size)
  have r_a2 : Hid (W2.heap[w.heap.size]? = some (.cells #[.int .i64 k, .int .i64 f, .int .i64 t, .int .i64 h.n, .string h.r, .int .i64 n, .slice ao0 x.length cap0] 28 (0, 0))) := rowKeep r_a1.out b2
  have r_res2 : Hid (W2.heap[w.heap.size + 1]? = some (.cells #[.int .i64 0, .int .i64 0, .int .i64 0, .int .i64 0, .string ⟨#[]⟩, .int .i64 0, .slice none 0 0] 28 (0, 0))) := rowKeep r_res1.out b2
  have c_a2_0 : W2.cell? ⟨w.heap.size, 0, none⟩ = some (.int .i64 k) := row_at r_a2.out 0
  have c_a2_1 : W2.cell? ⟨w.heap.size, 1, none⟩ = some (.int .i64 f) := row_at r_a2.out 1
  have c_a2_2 : W2.cell? ⟨w.heap.size, 2, none⟩ = some (.int .i64 t) := row_at r_a2.out 2
  have c_a2_3 : W2.cell? ⟨w.heap.size, 3, none⟩ = some (.int .i64 h.n) := row_at r_a2.out 3
  have c_a2_4 : W2.cell? ⟨w.heap.size, 4, none⟩ = some (.string h.r) := row_at r_a2.out 4
  have c_a2_5 : W2.cell? ⟨w.heap.size, 5, none⟩ = some (.int .i64 n) := row_at r_a2.out 5
  have c_a2_6 : W2.cell? ⟨w.heap.size, 6, none⟩ = some (.slice ao0 x.length cap0) := row_at r_a2.out 6
  have c_res2_0 : W2.cell? ⟨w.heap.size + 1, 0, none⟩ = some (.int .i64 0) := row_at r_res2.out 0
  have c_res2_1 : W2.cell? ⟨w.heap.size + 1, 1, none⟩ = some (.int .i64 0) := row_at r_res2.out 1
  have c_res2_2 : W2.cell? ⟨w.heap.size + 1, 2, none⟩ = some (.int .i64 0) := row_at r_res2.out 2
  have c_res2_3 : W2.cell? ⟨w.heap.size + 1, 3, none⟩ = some (.int .i64 0) := row_at r_res2.out 3
  have c_res2_4 : W2.cell? ⟨w.heap.size + 1, 4, none⟩ = some (.string ⟨#[]⟩) := row_at r_res2.out 4
  have c_res2_5 : W2.cell? ⟨w.heap.size + 1, 5, none⟩ = some (.int .i64 0) := row_at r_res2.out 5
  have c_res2_6 : W2.cell? ⟨w.heap.size + 1, 6, none⟩ = some (.slice none 0 0) := row_at r_res2.out 6
  clear r_a1 c_a1_0 c_a1_1 c_a1_2 c_a1_3 c_a1_4 c_a1_5 c_a1_6 r_res1 c_res1_0 c_res1_1 c_res1_2 c_res1_3 c_res1_4 c_res1_5 c_res1_6
  have c6_3 : (ss []).length + (ss x).length ≤ maxLen := by rw [ss_len, ss_len]; unfold maxLen; (try simp only [List.length_nil]); omega
  have c7_3 : ((ss []).length + (ss x).length) * 16 ≤ 140737488355328 := by rw [ss_len, ss_len]; (try simp only [List.length_nil]); omega
  have sE3 : Hid (Sl W2 _ (ss x)) := (HS.out.later B2.out)
  go_wp2_with (at_builtin; (try rw [HW1.out, HW2.out]); go_must (refine wpl_app _ rfl (.tmp 3) (.tmp 5) 26 rfl 9 i9 (.string ⟨#[]⟩) 16 Try.underlying26 hi9 hz9a hz9b hz9c rfl (W1.heap.size) _ (ss []) rfl (Own.mono o_e2.out (Nat.le_refl _) (by omega)) _ rfl (ss x) sE3.out (ss_one x) c6_3 c7_3 (by omega) ?_))
  intro v_p W3 o_p3 _ g3
  clear a_a1_0 a_a1_1 a_a1_2 a_a1_3 a_a1_4 a_a1_5 a_a1_6 a_res1_0 a_res1_1 a_res1_2 a_res1_3 a_res1_4 a_res1_5 a_res1_6
  have o_p3 : Own W3 (W1.heap.size) W3.heap.size 9 v_p (ss x) := o_p3
  have o_p3h : Hid (Own W3 (W1.heap.size) W3.heap.size 9 v_p (ss x)) := o_p3
  clear o_p3
  have o_p3 := o_p3h
  clear o_p3h
  obtain ⟨ao_p, L_p, cap_p, rfl, _, _⟩ := Mem.Own.form o_p3.out
  have z3 : W2.heap.size ≤ W3.heap.size := g3.size
  have B3 : Hid (Below w.heap.size w W3) := belowGro B2.out g3 B2.out.size (Own.low o_e2.out (by have := B2.out.size; omega))
  have r_a3 : Hid (W3.heap[w.heap.size]? = some (.cells #[.int .i64 k, .int .i64 f, .int .i64 t, .int .i64 h.n, .string h.r, .int .i64 n, .slice ao0 x.length cap0] 28 (0, 0))) := rowGro r_a2.out g3 (Own.neRow o_e2.out r_a2.out (by decide))
  have r_res3 : Hid (W3.heap[w.heap.size + 1]? = some (.cells #[.int .i64 0, .int .i64 0, .int .i64 0, .int .i64 0, .string ⟨#[]⟩, .int .i64 0, .slice none 0 0] 28 (0, 0))) := rowGro r_res2.out g3 (Own.neRow o_e2.out r_res2.out (by decide))
  have c_a3_0 : W3.cell? ⟨w.heap.size, 0, none⟩ = some (.int .i64 k) := row_at r_a3.out 0
  have c_a3_1 : W3.cell? ⟨w.heap.size, 1, none⟩ = some (.int .i64 f) := row_at r_a3.out 1
  have c_a3_2 : W3.cell? ⟨w.heap.size, 2, none⟩ = some (.int .i64 t) := row_at r_a3.out 2
  have c_a3_3 : W3.cell? ⟨w.heap.size, 3, none⟩ = some (.int .i64 h.n) := row_at r_a3.out 3
  have c_a3_4 : W3.cell? ⟨w.heap.size, 4, none⟩ = some (.string h.r) := row_at r_a3.out 4
  have c_a3_5 : W3.cell? ⟨w.heap.size, 5, none⟩ = some (.int .i64 n) := row_at r_a3.out 5
  have c_a3_6 : W3.cell? ⟨w.heap.size, 6, none⟩ = some (.slice ao0 x.length cap0) := row_at r_a3.out 6
  have c_res3_0 : W3.cell? ⟨w.heap.size + 1, 0, none⟩ = some (.int .i64 0) := row_at r_res3.out 0
  have c_res3_1 : W3.cell? ⟨w.heap.size + 1, 1, none⟩ = some (.int .i64 0) := row_at r_res3.out 1
  have c_res3_2 : W3.cell? ⟨w.heap.size + 1, 2, none⟩ = some (.int .i64 0) := row_at r_res3.out 2
  have c_res3_3 : W3.cell? ⟨w.heap.size + 1, 3, none⟩ = some (.int .i64 0) := row_at r_res3.out 3
  have c_res3_4 : W3.cell? ⟨w.heap.size + 1, 4, none⟩ = some (.string ⟨#[]⟩) := row_at r_res3.out 4
  have c_res3_5 : W3.cell? ⟨w.heap.size + 1, 5, none⟩ = some (.int .i64 0) := row_at r_res3.out 5
  have c_res3_6 : W3.cell? ⟨w.heap.size + 1, 6, none⟩ = some (.slice none 0 0) := row_at r_res3.out 6
  clear r_a2 c_a2_0 c_a2_1 c_a2_2 c_a2_3 c_a2_4 c_a2_5 c_a2_6 r_res2 c_res2_0 c_res2_1 c_res2_2 c_res2_3 c_res2_4 c_res2_5 c_res2_6 o_e2
  clear g3 sE3 c6_3 c7_3
  go_wp2_with (refine wpl_oneG rfl 26 _ _ rfl (w.heap.size) 6 (.slice ao_p L_p cap_p) rfl rfl [.int .i64 k, .int .i64 f, .int .i64 t, .int .i64 h.n, .string h.r, .int .i64 n, .slice ao0 x.length cap0] 28 r_a3.out (Nat.le_of_ble_eq_true rfl) (by kernel_rfl) rfl [.int .i64 k, .int .i64 f, .int .i64 t, .int .i64 h.n, .string h.r, .int .i64 n, .slice ao_p L_p cap_p] rfl ?_)
  intro W4 r_a4 g4
  have r_a4 : Hid (W4.heap[w.heap.size]? = some (.cells #[.int .i64 k, .int .i64 f, .int .i64 t, .int .i64 h.n, .string h.r, .int .i64 n, .slice ao_p L_p cap_p] 28 (0, 0))) := r_a4
  have z4 : W3.heap.size ≤ W4.heap.size := g4.size
  have B4 : Hid (Below w.heap.size w W4) := belowGro B3.out g4 B3.out.size (fun k9 h9 => by injection h9 with h9; have := B3.out.size; omega)
  have r_res4 : Hid (W4.heap[w.heap.size + 1]? = some (.cells #[.int .i64 0, .int .i64 0, .int .i64 0, .int .i64 0, .string ⟨#[]⟩, .int .i64 0, .slice none 0 0] 28 (0, 0))) := rowGro r_res3.out g4 (fun h9 => by injection h9 with h9; omega)
  have o_p4 : Hid (Own W4 (W1.heap.size) (W3.heap.size) 9 (.slice ao_p L_p cap_p) (ss x)) := Own.gro o_p3.out g4 (fun k9 h9 e9 => Own.neRow o_p3.out r_a3.out (by decide) (h9.trans e9.symm))
  have c_a4_0 : W4.cell? ⟨w.heap.size, 0, none⟩ = some (.int .i64 k) := row_at r_a4.out 0
  have c_a4_1 : W4.cell? ⟨w.heap.size, 1, none⟩ = some (.int .i64 f) := row_at r_a4.out 1
  have c_a4_2 : W4.cell? ⟨w.heap.size, 2, none⟩ = some (.int .i64 t) := row_at r_a4.out 2
  have c_a4_3 : W4.cell? ⟨w.heap.size, 3, none⟩ = some (.int .i64 h.n) := row_at r_a4.out 3
  have c_a4_4 : W4.cell? ⟨w.heap.size, 4, none⟩ = some (.string h.r) := row_at r_a4.out 4
  have c_a4_5 : W4.cell? ⟨w.heap.size, 5, none⟩ = some (.int .i64 n) := row_at r_a4.out 5
  have c_a4_6 : W4.cell? ⟨w.heap.size, 6, none⟩ = some (.slice ao_p L_p cap_p) := row_at r_a4.out 6
  have c_res4_0 : W4.cell? ⟨w.heap.size + 1, 0, none⟩ = some (.int .i64 0) := row_at r_res4.out 0
  have c_res4_1 : W4.cell? ⟨w.heap.size + 1, 1, none⟩ = some (.int .i64 0) := row_at r_res4.out 1
  have c_res4_2 : W4.cell? ⟨w.heap.size + 1, 2, none⟩ = some (.int .i64 0) := row_at r_res4.out 2
  have c_res4_3 : W4.cell? ⟨w.heap.size + 1, 3, none⟩ = some (.int .i64 0) := row_at r_res4.out 3
  have c_res4_4 : W4.cell? ⟨w.heap.size + 1, 4, none⟩ = some (.string ⟨#[]⟩) := row_at r_res4.out 4
  have c_res4_5 : W4.cell? ⟨w.heap.size + 1, 5, none⟩ = some (.int .i64 0) := row_at r_res4.out 5
  have c_res4_6 : W4.cell? ⟨w.heap.size + 1, 6, none⟩ = some (.slice none 0 0) := row_at r_res4.out 6
  clear r_res3 c_res3_0 c_res3_1 c_res3_2 c_res3_3 c_res3_4 c_res3_5 c_res3_6 o_p3
  clear r_a3 c_a3_0 c_a3_1 c_a3_2 c_a3_3 c_a3_4 c_a3_5 c_a3_6
  clear g4
  go_wp2_with (first | (refine wpList_load_row rfl 28 _ rfl (w.heap.size) rfl 28 (mc ⟨k, f, t, h, n, x⟩ (.slice ao_p L_p cap_p)) (0, 0) _ r_a4.out Try.underlying28 rfl (sizeM _ _) ?_) | (refine wpList_store_row rfl 28 _ _ rfl (w.heap.size + 1) (mc ⟨k, f, t, h, n, x⟩ (.slice ao_p L_p cap_p)) rfl rfl 28 _ r_res4.out (sizeM _ _) rfl (oneM _ rfl) ?_))
  exact bodyPost_ret (v := .agg (mc ⟨k, f, t, h, n, x⟩ (.slice ao_p L_p cap_p))) (results_cell_row rfl _ _ (w.heap.size + 1) 28 _ (0, 0) _ rfl (setRow_heap _ _ _ _ _ (0, 0) r_res4.out) Try.underlying28 rfl (sizeM _ _)) rfl ⟨_, rfl, (Own.setRow o_p4.out _ (by omega)).mono (by omega) (by rw [size_setRow]; omega), below_setRow B4.out (by omega) _⟩

set_option maxRecDepth 1000000 in
set_option maxHeartbeats 16000000 in
theorem bend13 (W0 w : World) (g : Nat) (vb : Value) (xs : List Int) (v : Value) (m : Ms) (hsm : Sl w v (ss m.x)) (hm : Dm 9 m) (hs : Sl W0 vb (bs xs)) (hby : Byt xs) (hx : xs.length ≤ 140737488355328) (hB : Below W0.heap.size W0 w) (hg : W0.heap.size ≤ g) (hcu : Cur w g vb xs.length) :
    Calls Try.prog 55 #[.pointer (some ⟨g, 0, none⟩), .agg #[.int .i64 m.k, .int .i64 m.f, .int .i64 m.t, .int .i64 m.h.n, .string m.h.r, .int .i64 m.n, v]] w fun e w' => ∃ (m' : Ms) (v' : Value), e = .returned (.agg #[.int .i64 m'.k, .int .i64 m'.f, .int .i64 m'.t, .int .i64 m'.h.n, .string m'.h.r, .int .i64 m'.n, v']) ∧ Dm 10 m' ∧ Own w' w.heap.size w'.heap.size 9 v' (ss m'.x) ∧ Drawn W0 w g vb xs w' := by
  obtain ⟨k, f, t, h, n, x⟩ := m
  obtain ⟨hlen, hsz, hhd⟩ := hm
  simp only at *
  have HSM : Hid (Sl w v (ss x)) := hsm
  have HSZ : Hid (∀ s ∈ x, s.size ≤ 3) := hsz
  obtain ⟨ao0, cap0, rfl, hc0⟩ := hsm.form
  simp only [ss_len] at *
  clear hsm hsz
  have HSW : Hid (Sl W0 vb (bs xs)) := hs
  have hgw := hcu.lt
  clear hs
  have B0 : Hid (Apart g (g + 1) w w) := Apart.refl _ _ _
  have cu0 : Hid (Cur w (g) vb xs.length) := hcu
  have bw0 : Hid (Below W0.heap.size W0 w) := hB
  obtain ⟨i9, hi9, hz9a, hz9b, hz9c⟩ := info_parts info9t
  obtain ⟨W1, HW1, b1, y1, hS1, r_a1, r_res1⟩ : ∃ X, Hid (((w.alloc (.cells #[.int .i64 k, .int .i64 f, .int .i64 t, .int .i64 h.n, .string h.r, .int .i64 n, .slice ao0 x.length cap0] 28)).alloc (.cells #[.int .i64 0, .int .i64 0, .int .i64 0, .int .i64 0, .string ⟨#[]⟩, .int .i64 0, .slice none 0 0] 28)) = X) ∧ Below w.heap.size w X ∧ w.heap.size + 2 ≤ X.heap.size ∧ Hid (X.heap.size = w.heap.size + 1 + 1) ∧ Hid (X.heap[w.heap.size]? = some (.cells #[.int .i64 k, .int .i64 f, .int .i64 t, .int .i64 h.n, .string h.r, .int .i64 n, .slice ao0 x.length cap0] 28 (0, 0))) ∧ Hid (X.heap[w.heap.size + 1]? = some (.cells #[.int .i64 0, .int .i64 0, .int .i64 0, .int .i64 0, .string ⟨#[]⟩, .int .i64 0, .slice none 0 0] 28 (0, 0))) := ⟨_, rfl, (((Below.refl _ _).alloc (Nat.le_refl _) _).alloc (by simp) _), by simp, by show _ = _; simp, (by show _ = _; exact alloc_nth2_0 w _ _), (by show _ = _; exact alloc_nth2_1 w _ _)⟩
  have z1 : w.heap.size ≤ W1.heap.size := b1.size
  have B1 : Hid (Apart g (g + 1) w W1) := B0.out.grow b1
  have c_a1_0 : W1.cell? ⟨w.heap.size, 0, none⟩ = some (.int .i64 k) := row_at r_a1.out 0
  have c_a1_1 : W1.cell? ⟨w.heap.size, 1, none⟩ = some (.int .i64 f) := row_at r_a1.out 1
  have c_a1_2 : W1.cell? ⟨w.heap.size, 2, none⟩ = some (.int .i64 t) := row_at r_a1.out 2
  have c_a1_3 : W1.cell? ⟨w.heap.size, 3, none⟩ = some (.int .i64 h.n) := row_at r_a1.out 3
  have c_a1_4 : W1.cell? ⟨w.heap.size, 4, none⟩ = some (.string h.r) := row_at r_a1.out 4
  have c_a1_5 : W1.cell? ⟨w.heap.size, 5, none⟩ = some (.int .i64 n) := row_at r_a1.out 5
  have c_a1_6 : W1.cell? ⟨w.heap.size, 6, none⟩ = some (.slice ao0 x.length cap0) := row_at r_a1.out 6
  have c_res1_0 : W1.cell? ⟨w.heap.size + 1, 0, none⟩ = some (.int .i64 0) := row_at r_res1.out 0
  have c_res1_1 : W1.cell? ⟨w.heap.size + 1, 1, none⟩ = some (.int .i64 0) := row_at r_res1.out 1
  have c_res1_2 : W1.cell? ⟨w.heap.size + 1, 2, none⟩ = some (.int .i64 0) := row_at r_res1.out 2
  have c_res1_3 : W1.cell? ⟨w.heap.size + 1, 3, none⟩ = some (.int .i64 0) := row_at r_res1.out 3
  have c_res1_4 : W1.cell? ⟨w.heap.size + 1, 4, none⟩ = some (.string ⟨#[]⟩) := row_at r_res1.out 4
  have c_res1_5 : W1.cell? ⟨w.heap.size + 1, 5, none⟩ = some (.int .i64 0) := row_at r_res1.out 5
  have c_res1_6 : W1.cell? ⟨w.heap.size + 1, 6, none⟩ = some (.slice none 0 0) := row_at r_res1.out 6
  have cu1 : Hid (Cur W1 (g) vb xs.length) := cu0.out.keep b1
  have bw1 : Hid (Below W0.heap.size W0 W1) := bw0.out.trans (b1.mono bw0.out.size)
  clear cu0 bw0
  go_enter Try.func55, Try.ntmps55
  have f_sm1 : Hid (Sl W1 (.slice ao0 x.length cap0) (ss x)) := HSM.out.later b1
  go_wp2_with fail
  rw [HW1.out]
  refine (copy13 W1 _ ⟨k, f, t, h, n, x⟩ f_sm1.out (by simp only; omega)).mono ?_
  rintro e W2 ⟨v_p, rfl, o_p2, b2⟩
  obtain ⟨ao_p, L_p, cap_p, rfl, hL_p, hM_p⟩ := o_p2.form
  have o_p2 : Hid (Own W2 W1.heap.size W2.heap.size 9 (.slice ao_p L_p cap_p) (ss x)) := o_p2
  clear hL_p hM_p
  have z2 : W1.heap.size ≤ W2.heap.size := b2.size
  have B2 : Hid (Apart g (g + 1) w W2) := B1.out.grow b2
  have r_a2 : Hid (W2.heap[w.heap.size]? = some (.cells #[.int .i64 k, .int .i64 f, .int .i64 t, .int .i64 h.n, .string h.r, .int .i64 n, .slice ao0 x.length cap0] 28 (0, 0))) := rowKeep r_a1.out b2
  have r_res2 : Hid (W2.heap[w.heap.size + 1]? = some (.cells #[.int .i64 0, .int .i64 0, .int .i64 0, .int .i64 0, .string ⟨#[]⟩, .int .i64 0, .slice none 0 0] 28 (0, 0))) := rowKeep r_res1.out b2
  have c_a2_0 : W2.cell? ⟨w.heap.size, 0, none⟩ = some (.int .i64 k) := row_at r_a2.out 0
  have c_a2_1 : W2.cell? ⟨w.heap.size, 1, none⟩ = some (.int .i64 f) := row_at r_a2.out 1
  have c_a2_2 : W2.cell? ⟨w.heap.size, 2, none⟩ = some (.int .i64 t) := row_at r_a2.out 2
  have c_a2_3 : W2.cell? ⟨w.heap.size, 3, none⟩ = some (.int .i64 h.n) := row_at r_a2.out 3
  have c_a2_4 : W2.cell? ⟨w.heap.size, 4, none⟩ = some (.string h.r) := row_at r_a2.out 4
  have c_a2_5 : W2.cell? ⟨w.heap.size, 5, none⟩ = some (.int .i64 n) := row_at r_a2.out 5
  have c_a2_6 : W2.cell? ⟨w.heap.size, 6, none⟩ = some (.slice ao0 x.length cap0) := row_at r_a2.out 6
  have c_res2_0 : W2.cell? ⟨w.heap.size + 1, 0, none⟩ = some (.int .i64 0) := row_at r_res2.out 0
  have c_res2_1 : W2.cell? ⟨w.heap.size + 1, 1, none⟩ = some (.int .i64 0) := row_at r_res2.out 1
  have c_res2_2 : W2.cell? ⟨w.heap.size + 1, 2, none⟩ = some (.int .i64 0) := row_at r_res2.out 2
  have c_res2_3 : W2.cell? ⟨w.heap.size + 1, 3, none⟩ = some (.int .i64 0) := row_at r_res2.out 3
  have c_res2_4 : W2.cell? ⟨w.heap.size + 1, 4, none⟩ = some (.string ⟨#[]⟩) := row_at r_res2.out 4
  have c_res2_5 : W2.cell? ⟨w.heap.size + 1, 5, none⟩ = some (.int .i64 0) := row_at r_res2.out 5
  have c_res2_6 : W2.cell? ⟨w.heap.size + 1, 6, none⟩ = some (.slice none 0 0) := row_at r_res2.out 6
  clear r_a1 c_a1_0 c_a1_1 c_a1_2 c_a1_3 c_a1_4 c_a1_5 c_a1_6 r_res1 c_res1_0 c_res1_1 c_res1_2 c_res1_3 c_res1_4 c_res1_5 c_res1_6
  have f_sm2 : Hid (Sl W2 (.slice ao0 x.length cap0) (ss x)) := Sl.later f_sm1.out b2
  clear f_sm1
  have cu2 : Hid (Cur W2 (g) vb xs.length) := cu1.out.keep b2
  have bw2 : Hid (Below W0.heap.size W0 W2) := bw1.out.trans (b2.mono bw1.out.size)
  clear cu1 bw1
  clear f_sm2
  go_wp2_with (refine wpl_partG rfl 28 _ _ rfl (w.heap.size) 0 (mc ⟨k, f, t, h, n, x⟩ (.slice ao_p L_p cap_p)) rfl rfl [.int .i64 k, .int .i64 f, .int .i64 t, .int .i64 h.n, .string h.r, .int .i64 n, .slice ao0 x.length cap0] 28 r_a2.out (Nat.le_of_ble_eq_true rfl) (sizeM _ _) (oneM _ rfl) [.int .i64 k, .int .i64 f, .int .i64 t, .int .i64 h.n, .string h.r, .int .i64 n, .slice ao_p L_p cap_p] rfl ?_)
  intro W3 r_a3 g3
  have cu3 : Hid (Cur W3 (g) vb xs.length) := cu2.out.gro g3 (fun h9 => by injection h9 with h9; omega)
  have bw3 : Hid (Below W0.heap.size W0 W3) := belowGro bw2.out g3 bw2.out.size (fun k9 h9 => by injection h9 with h9; omega)
  clear cu2 bw2
  have r_a3 : Hid (W3.heap[w.heap.size]? = some (.cells #[.int .i64 k, .int .i64 f, .int .i64 t, .int .i64 h.n, .string h.r, .int .i64 n, .slice ao_p L_p cap_p] 28 (0, 0))) := r_a3
  have z3 : W2.heap.size ≤ W3.heap.size := g3.size
  have B3 : Hid (Apart g (g + 1) w W3) := Apart.groM B2.out g3 (fun k9 h9 => by injection h9 with h9; have := B2.out.size; omega)
  have r_res3 : Hid (W3.heap[w.heap.size + 1]? = some (.cells #[.int .i64 0, .int .i64 0, .int .i64 0, .int .i64 0, .string ⟨#[]⟩, .int .i64 0, .slice none 0 0] 28 (0, 0))) := rowGro r_res2.out g3 (fun h9 => by injection h9 with h9; omega)
  have o_p3 : Hid (Own W3 (W1.heap.size) (W2.heap.size) 9 (.slice ao_p L_p cap_p) (ss x)) := Own.gro o_p2.out g3 (fun k9 h9 e9 => Own.neRow o_p2.out r_a2.out (by decide) (h9.trans e9.symm))
  have c_a3_0 : W3.cell? ⟨w.heap.size, 0, none⟩ = some (.int .i64 k) := row_at r_a3.out 0
  have c_a3_1 : W3.cell? ⟨w.heap.size, 1, none⟩ = some (.int .i64 f) := row_at r_a3.out 1
  have c_a3_2 : W3.cell? ⟨w.heap.size, 2, none⟩ = some (.int .i64 t) := row_at r_a3.out 2
  have c_a3_3 : W3.cell? ⟨w.heap.size, 3, none⟩ = some (.int .i64 h.n) := row_at r_a3.out 3
  have c_a3_4 : W3.cell? ⟨w.heap.size, 4, none⟩ = some (.string h.r) := row_at r_a3.out 4
  have c_a3_5 : W3.cell? ⟨w.heap.size, 5, none⟩ = some (.int .i64 n) := row_at r_a3.out 5
  have c_a3_6 : W3.cell? ⟨w.heap.size, 6, none⟩ = some (.slice ao_p L_p cap_p) := row_at r_a3.out 6
  have c_res3_0 : W3.cell? ⟨w.heap.size + 1, 0, none⟩ = some (.int .i64 0) := row_at r_res3.out 0
  have c_res3_1 : W3.cell? ⟨w.heap.size + 1, 1, none⟩ = some (.int .i64 0) := row_at r_res3.out 1
  have c_res3_2 : W3.cell? ⟨w.heap.size + 1, 2, none⟩ = some (.int .i64 0) := row_at r_res3.out 2
  have c_res3_3 : W3.cell? ⟨w.heap.size + 1, 3, none⟩ = some (.int .i64 0) := row_at r_res3.out 3
  have c_res3_4 : W3.cell? ⟨w.heap.size + 1, 4, none⟩ = some (.string ⟨#[]⟩) := row_at r_res3.out 4
  have c_res3_5 : W3.cell? ⟨w.heap.size + 1, 5, none⟩ = some (.int .i64 0) := row_at r_res3.out 5
  have c_res3_6 : W3.cell? ⟨w.heap.size + 1, 6, none⟩ = some (.slice none 0 0) := row_at r_res3.out 6
  clear r_res2 c_res2_0 c_res2_1 c_res2_2 c_res2_3 c_res2_4 c_res2_5 c_res2_6 o_p2
  clear r_a2 c_a2_0 c_a2_1 c_a2_2 c_a2_3 c_a2_4 c_a2_5 c_a2_6
  clear g3
  go_wp2_with fail
  refine (below_any W0 W3 g _ xs 8 (by omega) (by omega) HSW.out hby hx bw3.out hg cu3.out).mono ?_
  rintro e W4 ⟨y, rfl, hy0, hy8, d4⟩
  have z4 : W3.heap.size ≤ W4.heap.size := d4.apart.size
  have B4 : Hid (Apart g (g + 1) w W4) := B3.out.trans d4.apart
  have cu4 : Hid (Cur W4 (g) vb xs.length) := d4.cur
  have bw4 : Hid (Below W0.heap.size W0 W4) := d4.below
  have r_a4 : Hid (W4.heap[w.heap.size]? = some (.cells #[.int .i64 k, .int .i64 f, .int .i64 t, .int .i64 h.n, .string h.r, .int .i64 n, .slice ao_p L_p cap_p] 28 (0, 0))) := drawn_row r_a3.out d4 (by omega)
  have r_res4 : Hid (W4.heap[w.heap.size + 1]? = some (.cells #[.int .i64 0, .int .i64 0, .int .i64 0, .int .i64 0, .string ⟨#[]⟩, .int .i64 0, .slice none 0 0] 28 (0, 0))) := drawn_row r_res3.out d4 (by omega)
  have o_p4 : Hid (Own W4 (W1.heap.size) (W2.heap.size) 9 (.slice ao_p L_p cap_p) (ss x)) := Own.drawn o_p3.out d4 (by omega) (by omega)
  have c_a4_0 : W4.cell? ⟨w.heap.size, 0, none⟩ = some (.int .i64 k) := row_at r_a4.out 0
  have c_a4_1 : W4.cell? ⟨w.heap.size, 1, none⟩ = some (.int .i64 f) := row_at r_a4.out 1
  have c_a4_2 : W4.cell? ⟨w.heap.size, 2, none⟩ = some (.int .i64 t) := row_at r_a4.out 2
  have c_a4_3 : W4.cell? ⟨w.heap.size, 3, none⟩ = some (.int .i64 h.n) := row_at r_a4.out 3
  have c_a4_4 : W4.cell? ⟨w.heap.size, 4, none⟩ = some (.string h.r) := row_at r_a4.out 4
  have c_a4_5 : W4.cell? ⟨w.heap.size, 5, none⟩ = some (.int .i64 n) := row_at r_a4.out 5
  have c_a4_6 : W4.cell? ⟨w.heap.size, 6, none⟩ = some (.slice ao_p L_p cap_p) := row_at r_a4.out 6
  have c_res4_0 : W4.cell? ⟨w.heap.size + 1, 0, none⟩ = some (.int .i64 0) := row_at r_res4.out 0
  have c_res4_1 : W4.cell? ⟨w.heap.size + 1, 1, none⟩ = some (.int .i64 0) := row_at r_res4.out 1
  have c_res4_2 : W4.cell? ⟨w.heap.size + 1, 2, none⟩ = some (.int .i64 0) := row_at r_res4.out 2
  have c_res4_3 : W4.cell? ⟨w.heap.size + 1, 3, none⟩ = some (.int .i64 0) := row_at r_res4.out 3
  have c_res4_4 : W4.cell? ⟨w.heap.size + 1, 4, none⟩ = some (.string ⟨#[]⟩) := row_at r_res4.out 4
  have c_res4_5 : W4.cell? ⟨w.heap.size + 1, 5, none⟩ = some (.int .i64 0) := row_at r_res4.out 5
  have c_res4_6 : W4.cell? ⟨w.heap.size + 1, 6, none⟩ = some (.slice none 0 0) := row_at r_res4.out 6
  clear r_a3 c_a3_0 c_a3_1 c_a3_2 c_a3_3 c_a3_4 c_a3_5 c_a3_6 r_res3 c_res3_0 c_res3_1 c_res3_2 c_res3_3 c_res3_4 c_res3_5 c_res3_6 o_p3
  clear cu3 bw3 d4
  by_cases y0 : y = 0
  · subst y0
    go_wp2_with fail
    refine (below_any W0 W4 g _ xs 5 (by omega) (by omega) HSW.out hby hx bw4.out hg cu4.out).mono ?_
    rintro e W5 ⟨z, rfl, hz0, hz5, d5⟩
    have z5 : W4.heap.size ≤ W5.heap.size := d5.apart.size
    have B5 : Hid (Apart g (g + 1) w W5) := B4.out.trans d5.apart
    have cu5 : Hid (Cur W5 (g) vb xs.length) := d5.cur
    have bw5 : Hid (Below W0.heap.size W0 W5) := d5.below
    have r_a5 : Hid (W5.heap[w.heap.size]? = some (.cells #[.int .i64 k, .int .i64 f, .int .i64 t, .int .i64 h.n, .string h.r, .int .i64 n, .slice ao_p L_p cap_p] 28 (0, 0))) := drawn_row r_a4.out d5 (by omega)
    have r_res5 : Hid (W5.heap[w.heap.size + 1]? = some (.cells #[.int .i64 0, .int .i64 0, .int .i64 0, .int .i64 0, .string ⟨#[]⟩, .int .i64 0, .slice none 0 0] 28 (0, 0))) := drawn_row r_res4.out d5 (by omega)
    have o_p5 : Hid (Own W5 (W1.heap.size) (W2.heap.size) 9 (.slice ao_p L_p cap_p) (ss x)) := Own.drawn o_p4.out d5 (by omega) (by omega)
    have c_a5_0 : W5.cell? ⟨w.heap.size, 0, none⟩ = some (.int .i64 k) := row_at r_a5.out 0
    have c_a5_1 : W5.cell? ⟨w.heap.size, 1, none⟩ = some (.int .i64 f) := row_at r_a5.out 1
    have c_a5_2 : W5.cell? ⟨w.heap.size, 2, none⟩ = some (.int .i64 t) := row_at r_a5.out 2
    have c_a5_3 : W5.cell? ⟨w.heap.size, 3, none⟩ = some (.int .i64 h.n) := row_at r_a5.out 3
    have c_a5_4 : W5.cell? ⟨w.heap.size, 4, none⟩ = some (.string h.r) := row_at r_a5.out 4
    have c_a5_5 : W5.cell? ⟨w.heap.size, 5, none⟩ = some (.int .i64 n) := row_at r_a5.out 5
    have c_a5_6 : W5.cell? ⟨w.heap.size, 6, none⟩ = some (.slice ao_p L_p cap_p) := row_at r_a5.out 6
    have c_res5_0 : W5.cell? ⟨w.heap.size + 1, 0, none⟩ = some (.int .i64 0) := row_at r_res5.out 0
    have c_res5_1 : W5.cell? ⟨w.heap.size + 1, 1, none⟩ = some (.int .i64 0) := row_at r_res5.out 1
    have c_res5_2 : W5.cell? ⟨w.heap.size + 1, 2, none⟩ = some (.int .i64 0) := row_at r_res5.out 2
    have c_res5_3 : W5.cell? ⟨w.heap.size + 1, 3, none⟩ = some (.int .i64 0) := row_at r_res5.out 3
    have c_res5_4 : W5.cell? ⟨w.heap.size + 1, 4, none⟩ = some (.string ⟨#[]⟩) := row_at r_res5.out 4
    have c_res5_5 : W5.cell? ⟨w.heap.size + 1, 5, none⟩ = some (.int .i64 0) := row_at r_res5.out 5
    have c_res5_6 : W5.cell? ⟨w.heap.size + 1, 6, none⟩ = some (.slice none 0 0) := row_at r_res5.out 6
    clear r_a4 c_a4_0 c_a4_1 c_a4_2 c_a4_3 c_a4_4 c_a4_5 c_a4_6 r_res4 c_res4_0 c_res4_1 c_res4_2 c_res4_3 c_res4_4 c_res4_5 c_res4_6 o_p4
    clear cu4 bw4 d5
    go_wp2_with (refine wpl_oneG rfl 3 _ _ rfl (w.heap.size) 0 (.int .i64 z) rfl rfl [.int .i64 k, .int .i64 f, .int .i64 t, .int .i64 h.n, .string h.r, .int .i64 n, .slice ao_p L_p cap_p] 28 r_a5.out (Nat.le_of_ble_eq_true rfl) (by kernel_rfl) rfl [.int .i64 z, .int .i64 f, .int .i64 t, .int .i64 h.n, .string h.r, .int .i64 n, .slice ao_p L_p cap_p] rfl ?_)
    intro W6 r_a6 g6
    have cu6 : Hid (Cur W6 (g) vb xs.length) := cu5.out.gro g6 (fun h9 => by injection h9 with h9; omega)
    have bw6 : Hid (Below W0.heap.size W0 W6) := belowGro bw5.out g6 bw5.out.size (fun k9 h9 => by injection h9 with h9; omega)
    clear cu5 bw5
    have r_a6 : Hid (W6.heap[w.heap.size]? = some (.cells #[.int .i64 z, .int .i64 f, .int .i64 t, .int .i64 h.n, .string h.r, .int .i64 n, .slice ao_p L_p cap_p] 28 (0, 0))) := r_a6
    have z6 : W5.heap.size ≤ W6.heap.size := g6.size
    have B6 : Hid (Apart g (g + 1) w W6) := Apart.groM B5.out g6 (fun k9 h9 => by injection h9 with h9; have := B5.out.size; omega)
    have r_res6 : Hid (W6.heap[w.heap.size + 1]? = some (.cells #[.int .i64 0, .int .i64 0, .int .i64 0, .int .i64 0, .string ⟨#[]⟩, .int .i64 0, .slice none 0 0] 28 (0, 0))) := rowGro r_res5.out g6 (fun h9 => by injection h9 with h9; omega)
    have o_p6 : Hid (Own W6 (W1.heap.size) (W2.heap.size) 9 (.slice ao_p L_p cap_p) (ss x)) := Own.gro o_p5.out g6 (fun k9 h9 e9 => Own.neRow o_p5.out r_a5.out (by decide) (h9.trans e9.symm))
    have c_a6_0 : W6.cell? ⟨w.heap.size, 0, none⟩ = some (.int .i64 z) := row_at r_a6.out 0
    have c_a6_1 : W6.cell? ⟨w.heap.size, 1, none⟩ = some (.int .i64 f) := row_at r_a6.out 1
    have c_a6_2 : W6.cell? ⟨w.heap.size, 2, none⟩ = some (.int .i64 t) := row_at r_a6.out 2
    have c_a6_3 : W6.cell? ⟨w.heap.size, 3, none⟩ = some (.int .i64 h.n) := row_at r_a6.out 3
    have c_a6_4 : W6.cell? ⟨w.heap.size, 4, none⟩ = some (.string h.r) := row_at r_a6.out 4
    have c_a6_5 : W6.cell? ⟨w.heap.size, 5, none⟩ = some (.int .i64 n) := row_at r_a6.out 5
    have c_a6_6 : W6.cell? ⟨w.heap.size, 6, none⟩ = some (.slice ao_p L_p cap_p) := row_at r_a6.out 6
    have c_res6_0 : W6.cell? ⟨w.heap.size + 1, 0, none⟩ = some (.int .i64 0) := row_at r_res6.out 0
    have c_res6_1 : W6.cell? ⟨w.heap.size + 1, 1, none⟩ = some (.int .i64 0) := row_at r_res6.out 1
    have c_res6_2 : W6.cell? ⟨w.heap.size + 1, 2, none⟩ = some (.int .i64 0) := row_at r_res6.out 2
    have c_res6_3 : W6.cell? ⟨w.heap.size + 1, 3, none⟩ = some (.int .i64 0) := row_at r_res6.out 3
    have c_res6_4 : W6.cell? ⟨w.heap.size + 1, 4, none⟩ = some (.string ⟨#[]⟩) := row_at r_res6.out 4
    have c_res6_5 : W6.cell? ⟨w.heap.size + 1, 5, none⟩ = some (.int .i64 0) := row_at r_res6.out 5
    have c_res6_6 : W6.cell? ⟨w.heap.size + 1, 6, none⟩ = some (.slice none 0 0) := row_at r_res6.out 6
    clear r_res5 c_res5_0 c_res5_1 c_res5_2 c_res5_3 c_res5_4 c_res5_5 c_res5_6 o_p5
    clear r_a5 c_a5_0 c_a5_1 c_a5_2 c_a5_3 c_a5_4 c_a5_5 c_a5_6
    clear g6
    go_wp2_with (first | (refine wpList_load_row rfl 28 _ rfl (w.heap.size) rfl 28 (mc ⟨z, f, t, h, n, x⟩ (.slice ao_p L_p cap_p)) (0, 0) _ r_a6.out Try.underlying28 rfl (sizeM _ _) ?_) | (refine wpl_partG rfl 28 _ _ rfl (w.heap.size + 1) 0 (mc ⟨z, f, t, h, n, x⟩ (.slice ao_p L_p cap_p)) rfl rfl [.int .i64 0, .int .i64 0, .int .i64 0, .int .i64 0, .string ⟨#[]⟩, .int .i64 0, .slice none 0 0] 28 r_res6.out (Nat.le_of_ble_eq_true rfl) (sizeM _ _) (oneM _ rfl) [.int .i64 z, .int .i64 f, .int .i64 t, .int .i64 h.n, .string h.r, .int .i64 n, .slice ao_p L_p cap_p] rfl ?_))
    intro W7 r_res7 g7
    have cu7 : Hid (Cur W7 (g) vb xs.length) := cu6.out.gro g7 (fun h9 => by injection h9 with h9; omega)
    have bw7 : Hid (Below W0.heap.size W0 W7) := belowGro bw6.out g7 bw6.out.size (fun k9 h9 => by injection h9 with h9; omega)
    clear cu6 bw6
    have r_res7 : Hid (W7.heap[w.heap.size + 1]? = some (.cells #[.int .i64 z, .int .i64 f, .int .i64 t, .int .i64 h.n, .string h.r, .int .i64 n, .slice ao_p L_p cap_p] 28 (0, 0))) := r_res7
    have z7 : W6.heap.size ≤ W7.heap.size := g7.size
    have B7 : Hid (Apart g (g + 1) w W7) := Apart.groM B6.out g7 (fun k9 h9 => by injection h9 with h9; have := B6.out.size; omega)
    have r_a7 : Hid (W7.heap[w.heap.size]? = some (.cells #[.int .i64 z, .int .i64 f, .int .i64 t, .int .i64 h.n, .string h.r, .int .i64 n, .slice ao_p L_p cap_p] 28 (0, 0))) := rowGro r_a6.out g7 (fun h9 => by injection h9 with h9; omega)
    have o_p7 : Hid (Own W7 (W1.heap.size) (W2.heap.size) 9 (.slice ao_p L_p cap_p) (ss x)) := Own.gro o_p6.out g7 (fun k9 h9 e9 => Own.neRow o_p6.out r_res6.out (by decide) (h9.trans e9.symm))
    have c_a7_0 : W7.cell? ⟨w.heap.size, 0, none⟩ = some (.int .i64 z) := row_at r_a7.out 0
    have c_a7_1 : W7.cell? ⟨w.heap.size, 1, none⟩ = some (.int .i64 f) := row_at r_a7.out 1
    have c_a7_2 : W7.cell? ⟨w.heap.size, 2, none⟩ = some (.int .i64 t) := row_at r_a7.out 2
    have c_a7_3 : W7.cell? ⟨w.heap.size, 3, none⟩ = some (.int .i64 h.n) := row_at r_a7.out 3
    have c_a7_4 : W7.cell? ⟨w.heap.size, 4, none⟩ = some (.string h.r) := row_at r_a7.out 4
    have c_a7_5 : W7.cell? ⟨w.heap.size, 5, none⟩ = some (.int .i64 n) := row_at r_a7.out 5
    have c_a7_6 : W7.cell? ⟨w.heap.size, 6, none⟩ = some (.slice ao_p L_p cap_p) := row_at r_a7.out 6
    have c_res7_0 : W7.cell? ⟨w.heap.size + 1, 0, none⟩ = some (.int .i64 z) := row_at r_res7.out 0
    have c_res7_1 : W7.cell? ⟨w.heap.size + 1, 1, none⟩ = some (.int .i64 f) := row_at r_res7.out 1
    have c_res7_2 : W7.cell? ⟨w.heap.size + 1, 2, none⟩ = some (.int .i64 t) := row_at r_res7.out 2
    have c_res7_3 : W7.cell? ⟨w.heap.size + 1, 3, none⟩ = some (.int .i64 h.n) := row_at r_res7.out 3
    have c_res7_4 : W7.cell? ⟨w.heap.size + 1, 4, none⟩ = some (.string h.r) := row_at r_res7.out 4
    have c_res7_5 : W7.cell? ⟨w.heap.size + 1, 5, none⟩ = some (.int .i64 n) := row_at r_res7.out 5
    have c_res7_6 : W7.cell? ⟨w.heap.size + 1, 6, none⟩ = some (.slice ao_p L_p cap_p) := row_at r_res7.out 6
    clear r_a6 c_a6_0 c_a6_1 c_a6_2 c_a6_3 c_a6_4 c_a6_5 c_a6_6 o_p6
    clear r_res6 c_res6_0 c_res6_1 c_res6_2 c_res6_3 c_res6_4 c_res6_5 c_res6_6
    go_wp2
    exact bodyPost_ret (v := .agg (mc ⟨z, f, t, h, n, x⟩ (.slice ao_p L_p cap_p))) (results_cell_row rfl _ _ (w.heap.size + 1) 28 _ (0, 0) _ rfl r_res7.out Try.underlying28 rfl (sizeM _ _)) rfl ⟨⟨z, f, t, h, n, x⟩, .slice ao_p L_p cap_p, rfl, ⟨by simp only; omega, HSZ.out, hhd⟩, Own.mono o_p7.out (by omega) (by omega), ⟨cu7.out, B7.out, bw7.out⟩⟩
  · have y0b : (y == 0) = false := by rw [beq_eq_false_iff_ne]; exact y0
    by_cases y1 : y = 1
    · subst y1
      have kx1 := c_a4_1
      have a_a4_0 : ∀ o, (W4.alloc o).cell? ⟨w.heap.size, 0, none⟩ = some (.int .i64 k) := fun o => keepR c_a4_0 ((Below.refl _ _).alloc (Nat.le_refl _) o)
      have a_a4_1 : ∀ o, (W4.alloc o).cell? ⟨w.heap.size, 1, none⟩ = some (.int .i64 f) := fun o => keepR c_a4_1 ((Below.refl _ _).alloc (Nat.le_refl _) o)
      have a_a4_2 : ∀ o, (W4.alloc o).cell? ⟨w.heap.size, 2, none⟩ = some (.int .i64 t) := fun o => keepR c_a4_2 ((Below.refl _ _).alloc (Nat.le_refl _) o)
      have a_a4_3 : ∀ o, (W4.alloc o).cell? ⟨w.heap.size, 3, none⟩ = some (.int .i64 h.n) := fun o => keepR c_a4_3 ((Below.refl _ _).alloc (Nat.le_refl _) o)
      have a_a4_4 : ∀ o, (W4.alloc o).cell? ⟨w.heap.size, 4, none⟩ = some (.string h.r) := fun o => keepR c_a4_4 ((Below.refl _ _).alloc (Nat.le_refl _) o)
      have a_a4_5 : ∀ o, (W4.alloc o).cell? ⟨w.heap.size, 5, none⟩ = some (.int .i64 n) := fun o => keepR c_a4_5 ((Below.refl _ _).alloc (Nat.le_refl _) o)
      have a_a4_6 : ∀ o, (W4.alloc o).cell? ⟨w.heap.size, 6, none⟩ = some (.slice ao_p L_p cap_p) := fun o => keepR c_a4_6 ((Below.refl _ _).alloc (Nat.le_refl _) o)
      have a_res4_0 : ∀ o, (W4.alloc o).cell? ⟨w.heap.size + 1, 0, none⟩ = some (.int .i64 0) := fun o => keepR c_res4_0 ((Below.refl _ _).alloc (Nat.le_refl _) o)
      have a_res4_1 : ∀ o, (W4.alloc o).cell? ⟨w.heap.size + 1, 1, none⟩ = some (.int .i64 0) := fun o => keepR c_res4_1 ((Below.refl _ _).alloc (Nat.le_refl _) o)
      have a_res4_2 : ∀ o, (W4.alloc o).cell? ⟨w.heap.size + 1, 2, none⟩ = some (.int .i64 0) := fun o => keepR c_res4_2 ((Below.refl _ _).alloc (Nat.le_refl _) o)
      have a_res4_3 : ∀ o, (W4.alloc o).cell? ⟨w.heap.size + 1, 3, none⟩ = some (.int .i64 0) := fun o => keepR c_res4_3 ((Below.refl _ _).alloc (Nat.le_refl _) o)
      have a_res4_4 : ∀ o, (W4.alloc o).cell? ⟨w.heap.size + 1, 4, none⟩ = some (.string ⟨#[]⟩) := fun o => keepR c_res4_4 ((Below.refl _ _).alloc (Nat.le_refl _) o)
      have a_res4_5 : ∀ o, (W4.alloc o).cell? ⟨w.heap.size + 1, 5, none⟩ = some (.int .i64 0) := fun o => keepR c_res4_5 ((Below.refl _ _).alloc (Nat.le_refl _) o)
      have a_res4_6 : ∀ o, (W4.alloc o).cell? ⟨w.heap.size + 1, 6, none⟩ = some (.slice none 0 0) := fun o => keepR c_res4_6 ((Below.refl _ _).alloc (Nat.le_refl _) o)
      obtain ⟨W5, HW5, b5, y5, hS5, r_li5⟩ : ∃ X, Hid ((W4.alloc (.cells #[.int .i64 f, .int .i64 (-1), .int .i64 21, .int .i64 20] 3)) = X) ∧ Below W4.heap.size W4 X ∧ W4.heap.size + 1 ≤ X.heap.size ∧ Hid (X.heap.size = W4.heap.size + 1) ∧ Hid (X.heap[W4.heap.size]? = some (.cells #[.int .i64 f, .int .i64 (-1), .int .i64 21, .int .i64 20] 3 (0, 0))) := ⟨_, rfl, ((Below.refl _ _).alloc (Nat.le_refl _) _), by simp, by show _ = _; simp, (by show _ = _; exact alloc_nth1_0 W4 _)⟩
      have z5 : W4.heap.size ≤ W5.heap.size := b5.size
      have B5 : Hid (Apart g (g + 1) w W5) := B4.out.grow b5
      have r_a5 : Hid (W5.heap[w.heap.size]? = some (.cells #[.int .i64 k, .int .i64 f, .int .i64 t, .int .i64 h.n, .string h.r, .int .i64 n, .slice ao_p L_p cap_p] 28 (0, 0))) := rowKeep r_a4.out b5
      have r_res5 : Hid (W5.heap[w.heap.size + 1]? = some (.cells #[.int .i64 0, .int .i64 0, .int .i64 0, .int .i64 0, .string ⟨#[]⟩, .int .i64 0, .slice none 0 0] 28 (0, 0))) := rowKeep r_res4.out b5
      have o_p5 : Hid (Own W5 (W1.heap.size) (W2.heap.size) 9 (.slice ao_p L_p cap_p) (ss x)) := Own.later o_p4.out b5 (by omega)
      have c_a5_0 : W5.cell? ⟨w.heap.size, 0, none⟩ = some (.int .i64 k) := row_at r_a5.out 0
      have c_a5_1 : W5.cell? ⟨w.heap.size, 1, none⟩ = some (.int .i64 f) := row_at r_a5.out 1
      have c_a5_2 : W5.cell? ⟨w.heap.size, 2, none⟩ = some (.int .i64 t) := row_at r_a5.out 2
      have c_a5_3 : W5.cell? ⟨w.heap.size, 3, none⟩ = some (.int .i64 h.n) := row_at r_a5.out 3
      have c_a5_4 : W5.cell? ⟨w.heap.size, 4, none⟩ = some (.string h.r) := row_at r_a5.out 4
      have c_a5_5 : W5.cell? ⟨w.heap.size, 5, none⟩ = some (.int .i64 n) := row_at r_a5.out 5
      have c_a5_6 : W5.cell? ⟨w.heap.size, 6, none⟩ = some (.slice ao_p L_p cap_p) := row_at r_a5.out 6
      have c_res5_0 : W5.cell? ⟨w.heap.size + 1, 0, none⟩ = some (.int .i64 0) := row_at r_res5.out 0
      have c_res5_1 : W5.cell? ⟨w.heap.size + 1, 1, none⟩ = some (.int .i64 0) := row_at r_res5.out 1
      have c_res5_2 : W5.cell? ⟨w.heap.size + 1, 2, none⟩ = some (.int .i64 0) := row_at r_res5.out 2
      have c_res5_3 : W5.cell? ⟨w.heap.size + 1, 3, none⟩ = some (.int .i64 0) := row_at r_res5.out 3
      have c_res5_4 : W5.cell? ⟨w.heap.size + 1, 4, none⟩ = some (.string ⟨#[]⟩) := row_at r_res5.out 4
      have c_res5_5 : W5.cell? ⟨w.heap.size + 1, 5, none⟩ = some (.int .i64 0) := row_at r_res5.out 5
      have c_res5_6 : W5.cell? ⟨w.heap.size + 1, 6, none⟩ = some (.slice none 0 0) := row_at r_res5.out 6
      have c_li5_0 : W5.cell? ⟨W4.heap.size, 0, none⟩ = some (.int .i64 f) := row_at r_li5.out 0
      have c_li5_1 : W5.cell? ⟨W4.heap.size, 1, none⟩ = some (.int .i64 (-1)) := row_at r_li5.out 1
      have c_li5_2 : W5.cell? ⟨W4.heap.size, 2, none⟩ = some (.int .i64 21) := row_at r_li5.out 2
      have c_li5_3 : W5.cell? ⟨W4.heap.size, 3, none⟩ = some (.int .i64 20) := row_at r_li5.out 3
      clear r_a4 c_a4_0 c_a4_1 c_a4_2 c_a4_3 c_a4_4 c_a4_5 c_a4_6 r_res4 c_res4_0 c_res4_1 c_res4_2 c_res4_3 c_res4_4 c_res4_5 c_res4_6 o_p4
      have cu5 : Hid (Cur W5 (g) vb xs.length) := cu4.out.keep b5
      have bw5 : Hid (Below W0.heap.size W0 W5) := bw4.out.trans (b5.mono bw4.out.size)
      clear cu4 bw4
      go_wp2_with fail
      rw [HW5.out]
      clear a_a4_0 a_a4_1 a_a4_2 a_a4_3 a_a4_4 a_a4_5 a_a4_6 a_res4_0 a_res4_1 a_res4_2 a_res4_3 a_res4_4 a_res4_5 a_res4_6
      refine (int_any W0 W5 g _ xs (W4.heap.size) [f, -1, 21, 20] r_li5.out (by omega) (by simp) (by simp) HSW.out hby hx bw5.out hg cu5.out).mono ?_
      rintro e W6 ⟨i, rfl, him, d6⟩
      have z6 : W5.heap.size ≤ W6.heap.size := d6.apart.size
      have B6 : Hid (Apart g (g + 1) w W6) := B5.out.trans d6.apart
      have cu6 : Hid (Cur W6 (g) vb xs.length) := d6.cur
      have bw6 : Hid (Below W0.heap.size W0 W6) := d6.below
      have r_a6 : Hid (W6.heap[w.heap.size]? = some (.cells #[.int .i64 k, .int .i64 f, .int .i64 t, .int .i64 h.n, .string h.r, .int .i64 n, .slice ao_p L_p cap_p] 28 (0, 0))) := drawn_row r_a5.out d6 (by omega)
      have r_res6 : Hid (W6.heap[w.heap.size + 1]? = some (.cells #[.int .i64 0, .int .i64 0, .int .i64 0, .int .i64 0, .string ⟨#[]⟩, .int .i64 0, .slice none 0 0] 28 (0, 0))) := drawn_row r_res5.out d6 (by omega)
      have r_li6 : Hid (W6.heap[W4.heap.size]? = some (.cells #[.int .i64 f, .int .i64 (-1), .int .i64 21, .int .i64 20] 3 (0, 0))) := drawn_row r_li5.out d6 (by omega)
      have o_p6 : Hid (Own W6 (W1.heap.size) (W2.heap.size) 9 (.slice ao_p L_p cap_p) (ss x)) := Own.drawn o_p5.out d6 (by omega) (by omega)
      have c_a6_0 : W6.cell? ⟨w.heap.size, 0, none⟩ = some (.int .i64 k) := row_at r_a6.out 0
      have c_a6_1 : W6.cell? ⟨w.heap.size, 1, none⟩ = some (.int .i64 f) := row_at r_a6.out 1
      have c_a6_2 : W6.cell? ⟨w.heap.size, 2, none⟩ = some (.int .i64 t) := row_at r_a6.out 2
      have c_a6_3 : W6.cell? ⟨w.heap.size, 3, none⟩ = some (.int .i64 h.n) := row_at r_a6.out 3
      have c_a6_4 : W6.cell? ⟨w.heap.size, 4, none⟩ = some (.string h.r) := row_at r_a6.out 4
      have c_a6_5 : W6.cell? ⟨w.heap.size, 5, none⟩ = some (.int .i64 n) := row_at r_a6.out 5
      have c_a6_6 : W6.cell? ⟨w.heap.size, 6, none⟩ = some (.slice ao_p L_p cap_p) := row_at r_a6.out 6
      have c_res6_0 : W6.cell? ⟨w.heap.size + 1, 0, none⟩ = some (.int .i64 0) := row_at r_res6.out 0
      have c_res6_1 : W6.cell? ⟨w.heap.size + 1, 1, none⟩ = some (.int .i64 0) := row_at r_res6.out 1
      have c_res6_2 : W6.cell? ⟨w.heap.size + 1, 2, none⟩ = some (.int .i64 0) := row_at r_res6.out 2
      have c_res6_3 : W6.cell? ⟨w.heap.size + 1, 3, none⟩ = some (.int .i64 0) := row_at r_res6.out 3
      have c_res6_4 : W6.cell? ⟨w.heap.size + 1, 4, none⟩ = some (.string ⟨#[]⟩) := row_at r_res6.out 4
      have c_res6_5 : W6.cell? ⟨w.heap.size + 1, 5, none⟩ = some (.int .i64 0) := row_at r_res6.out 5
      have c_res6_6 : W6.cell? ⟨w.heap.size + 1, 6, none⟩ = some (.slice none 0 0) := row_at r_res6.out 6
      have c_li6_0 : W6.cell? ⟨W4.heap.size, 0, none⟩ = some (.int .i64 f) := row_at r_li6.out 0
      have c_li6_1 : W6.cell? ⟨W4.heap.size, 1, none⟩ = some (.int .i64 (-1)) := row_at r_li6.out 1
      have c_li6_2 : W6.cell? ⟨W4.heap.size, 2, none⟩ = some (.int .i64 21) := row_at r_li6.out 2
      have c_li6_3 : W6.cell? ⟨W4.heap.size, 3, none⟩ = some (.int .i64 20) := row_at r_li6.out 3
      clear r_a5 c_a5_0 c_a5_1 c_a5_2 c_a5_3 c_a5_4 c_a5_5 c_a5_6 r_res5 c_res5_0 c_res5_1 c_res5_2 c_res5_3 c_res5_4 c_res5_5 c_res5_6 r_li5 c_li5_0 c_li5_1 c_li5_2 c_li5_3 o_p5
      clear cu5 bw5 d6
      clear r_li6 c_li6_0 c_li6_1 c_li6_2 c_li6_3
      go_wp2_with (refine wpl_oneG rfl 3 _ _ rfl (w.heap.size) 2 (.int .i64 i) rfl rfl [.int .i64 k, .int .i64 f, .int .i64 t, .int .i64 h.n, .string h.r, .int .i64 n, .slice ao_p L_p cap_p] 28 r_a6.out (Nat.le_of_ble_eq_true rfl) (by kernel_rfl) rfl [.int .i64 k, .int .i64 f, .int .i64 i, .int .i64 h.n, .string h.r, .int .i64 n, .slice ao_p L_p cap_p] rfl ?_)
      intro W7 r_a7 g7
      have cu7 : Hid (Cur W7 (g) vb xs.length) := cu6.out.gro g7 (fun h9 => by injection h9 with h9; omega)
      have bw7 : Hid (Below W0.heap.size W0 W7) := belowGro bw6.out g7 bw6.out.size (fun k9 h9 => by injection h9 with h9; omega)
      clear cu6 bw6
      have r_a7 : Hid (W7.heap[w.heap.size]? = some (.cells #[.int .i64 k, .int .i64 f, .int .i64 i, .int .i64 h.n, .string h.r, .int .i64 n, .slice ao_p L_p cap_p] 28 (0, 0))) := r_a7
      have z7 : W6.heap.size ≤ W7.heap.size := g7.size
      have B7 : Hid (Apart g (g + 1) w W7) := Apart.groM B6.out g7 (fun k9 h9 => by injection h9 with h9; have := B6.out.size; omega)
      have r_res7 : Hid (W7.heap[w.heap.size + 1]? = some (.cells #[.int .i64 0, .int .i64 0, .int .i64 0, .int .i64 0, .string ⟨#[]⟩, .int .i64 0, .slice none 0 0] 28 (0, 0))) := rowGro r_res6.out g7 (fun h9 => by injection h9 with h9; omega)
      have o_p7 : Hid (Own W7 (W1.heap.size) (W2.heap.size) 9 (.slice ao_p L_p cap_p) (ss x)) := Own.gro o_p6.out g7 (fun k9 h9 e9 => Own.neRow o_p6.out r_a6.out (by decide) (h9.trans e9.symm))
      have c_a7_0 : W7.cell? ⟨w.heap.size, 0, none⟩ = some (.int .i64 k) := row_at r_a7.out 0
      have c_a7_1 : W7.cell? ⟨w.heap.size, 1, none⟩ = some (.int .i64 f) := row_at r_a7.out 1
      have c_a7_2 : W7.cell? ⟨w.heap.size, 2, none⟩ = some (.int .i64 i) := row_at r_a7.out 2
      have c_a7_3 : W7.cell? ⟨w.heap.size, 3, none⟩ = some (.int .i64 h.n) := row_at r_a7.out 3
      have c_a7_4 : W7.cell? ⟨w.heap.size, 4, none⟩ = some (.string h.r) := row_at r_a7.out 4
      have c_a7_5 : W7.cell? ⟨w.heap.size, 5, none⟩ = some (.int .i64 n) := row_at r_a7.out 5
      have c_a7_6 : W7.cell? ⟨w.heap.size, 6, none⟩ = some (.slice ao_p L_p cap_p) := row_at r_a7.out 6
      have c_res7_0 : W7.cell? ⟨w.heap.size + 1, 0, none⟩ = some (.int .i64 0) := row_at r_res7.out 0
      have c_res7_1 : W7.cell? ⟨w.heap.size + 1, 1, none⟩ = some (.int .i64 0) := row_at r_res7.out 1
      have c_res7_2 : W7.cell? ⟨w.heap.size + 1, 2, none⟩ = some (.int .i64 0) := row_at r_res7.out 2
      have c_res7_3 : W7.cell? ⟨w.heap.size + 1, 3, none⟩ = some (.int .i64 0) := row_at r_res7.out 3
      have c_res7_4 : W7.cell? ⟨w.heap.size + 1, 4, none⟩ = some (.string ⟨#[]⟩) := row_at r_res7.out 4
      have c_res7_5 : W7.cell? ⟨w.heap.size + 1, 5, none⟩ = some (.int .i64 0) := row_at r_res7.out 5
      have c_res7_6 : W7.cell? ⟨w.heap.size + 1, 6, none⟩ = some (.slice none 0 0) := row_at r_res7.out 6
      clear r_res6 c_res6_0 c_res6_1 c_res6_2 c_res6_3 c_res6_4 c_res6_5 c_res6_6 o_p6
      clear r_a6 c_a6_0 c_a6_1 c_a6_2 c_a6_3 c_a6_4 c_a6_5 c_a6_6
      clear g7
      go_wp2_with (first | (refine wpList_load_row rfl 28 _ rfl (w.heap.size) rfl 28 (mc ⟨k, f, i, h, n, x⟩ (.slice ao_p L_p cap_p)) (0, 0) _ r_a7.out Try.underlying28 rfl (sizeM _ _) ?_) | (refine wpl_partG rfl 28 _ _ rfl (w.heap.size + 1) 0 (mc ⟨k, f, i, h, n, x⟩ (.slice ao_p L_p cap_p)) rfl rfl [.int .i64 0, .int .i64 0, .int .i64 0, .int .i64 0, .string ⟨#[]⟩, .int .i64 0, .slice none 0 0] 28 r_res7.out (Nat.le_of_ble_eq_true rfl) (sizeM _ _) (oneM _ rfl) [.int .i64 k, .int .i64 f, .int .i64 i, .int .i64 h.n, .string h.r, .int .i64 n, .slice ao_p L_p cap_p] rfl ?_))
      intro W8 r_res8 g8
      have cu8 : Hid (Cur W8 (g) vb xs.length) := cu7.out.gro g8 (fun h9 => by injection h9 with h9; omega)
      have bw8 : Hid (Below W0.heap.size W0 W8) := belowGro bw7.out g8 bw7.out.size (fun k9 h9 => by injection h9 with h9; omega)
      clear cu7 bw7
      have r_res8 : Hid (W8.heap[w.heap.size + 1]? = some (.cells #[.int .i64 k, .int .i64 f, .int .i64 i, .int .i64 h.n, .string h.r, .int .i64 n, .slice ao_p L_p cap_p] 28 (0, 0))) := r_res8
      have z8 : W7.heap.size ≤ W8.heap.size := g8.size
      have B8 : Hid (Apart g (g + 1) w W8) := Apart.groM B7.out g8 (fun k9 h9 => by injection h9 with h9; have := B7.out.size; omega)
      have r_a8 : Hid (W8.heap[w.heap.size]? = some (.cells #[.int .i64 k, .int .i64 f, .int .i64 i, .int .i64 h.n, .string h.r, .int .i64 n, .slice ao_p L_p cap_p] 28 (0, 0))) := rowGro r_a7.out g8 (fun h9 => by injection h9 with h9; omega)
      have o_p8 : Hid (Own W8 (W1.heap.size) (W2.heap.size) 9 (.slice ao_p L_p cap_p) (ss x)) := Own.gro o_p7.out g8 (fun k9 h9 e9 => Own.neRow o_p7.out r_res7.out (by decide) (h9.trans e9.symm))
      have c_a8_0 : W8.cell? ⟨w.heap.size, 0, none⟩ = some (.int .i64 k) := row_at r_a8.out 0
      have c_a8_1 : W8.cell? ⟨w.heap.size, 1, none⟩ = some (.int .i64 f) := row_at r_a8.out 1
      have c_a8_2 : W8.cell? ⟨w.heap.size, 2, none⟩ = some (.int .i64 i) := row_at r_a8.out 2
      have c_a8_3 : W8.cell? ⟨w.heap.size, 3, none⟩ = some (.int .i64 h.n) := row_at r_a8.out 3
      have c_a8_4 : W8.cell? ⟨w.heap.size, 4, none⟩ = some (.string h.r) := row_at r_a8.out 4
      have c_a8_5 : W8.cell? ⟨w.heap.size, 5, none⟩ = some (.int .i64 n) := row_at r_a8.out 5
      have c_a8_6 : W8.cell? ⟨w.heap.size, 6, none⟩ = some (.slice ao_p L_p cap_p) := row_at r_a8.out 6
      have c_res8_0 : W8.cell? ⟨w.heap.size + 1, 0, none⟩ = some (.int .i64 k) := row_at r_res8.out 0
      have c_res8_1 : W8.cell? ⟨w.heap.size + 1, 1, none⟩ = some (.int .i64 f) := row_at r_res8.out 1
      have c_res8_2 : W8.cell? ⟨w.heap.size + 1, 2, none⟩ = some (.int .i64 i) := row_at r_res8.out 2
      have c_res8_3 : W8.cell? ⟨w.heap.size + 1, 3, none⟩ = some (.int .i64 h.n) := row_at r_res8.out 3
      have c_res8_4 : W8.cell? ⟨w.heap.size + 1, 4, none⟩ = some (.string h.r) := row_at r_res8.out 4
      have c_res8_5 : W8.cell? ⟨w.heap.size + 1, 5, none⟩ = some (.int .i64 n) := row_at r_res8.out 5
      have c_res8_6 : W8.cell? ⟨w.heap.size + 1, 6, none⟩ = some (.slice ao_p L_p cap_p) := row_at r_res8.out 6
      clear r_a7 c_a7_0 c_a7_1 c_a7_2 c_a7_3 c_a7_4 c_a7_5 c_a7_6 o_p7
      clear r_res7 c_res7_0 c_res7_1 c_res7_2 c_res7_3 c_res7_4 c_res7_5 c_res7_6
      go_wp2
      exact bodyPost_ret (v := .agg (mc ⟨k, f, i, h, n, x⟩ (.slice ao_p L_p cap_p))) (results_cell_row rfl _ _ (w.heap.size + 1) 28 _ (0, 0) _ rfl r_res8.out Try.underlying28 rfl (sizeM _ _)) rfl ⟨⟨k, f, i, h, n, x⟩, .slice ao_p L_p cap_p, rfl, ⟨by simp only; omega, HSZ.out, hhd⟩, Own.mono o_p8.out (by omega) (by omega), ⟨cu8.out, B8.out, bw8.out⟩⟩
    · have y1b : (y == 1) = false := by rw [beq_eq_false_iff_ne]; exact y1
      by_cases y2 : y = 2
      · subst y2
        have kx3 := c_a4_3
        have a_a4_0 : ∀ o, (W4.alloc o).cell? ⟨w.heap.size, 0, none⟩ = some (.int .i64 k) := fun o => keepR c_a4_0 ((Below.refl _ _).alloc (Nat.le_refl _) o)
        have a_a4_1 : ∀ o, (W4.alloc o).cell? ⟨w.heap.size, 1, none⟩ = some (.int .i64 f) := fun o => keepR c_a4_1 ((Below.refl _ _).alloc (Nat.le_refl _) o)
        have a_a4_2 : ∀ o, (W4.alloc o).cell? ⟨w.heap.size, 2, none⟩ = some (.int .i64 t) := fun o => keepR c_a4_2 ((Below.refl _ _).alloc (Nat.le_refl _) o)
        have a_a4_3 : ∀ o, (W4.alloc o).cell? ⟨w.heap.size, 3, none⟩ = some (.int .i64 h.n) := fun o => keepR c_a4_3 ((Below.refl _ _).alloc (Nat.le_refl _) o)
        have a_a4_4 : ∀ o, (W4.alloc o).cell? ⟨w.heap.size, 4, none⟩ = some (.string h.r) := fun o => keepR c_a4_4 ((Below.refl _ _).alloc (Nat.le_refl _) o)
        have a_a4_5 : ∀ o, (W4.alloc o).cell? ⟨w.heap.size, 5, none⟩ = some (.int .i64 n) := fun o => keepR c_a4_5 ((Below.refl _ _).alloc (Nat.le_refl _) o)
        have a_a4_6 : ∀ o, (W4.alloc o).cell? ⟨w.heap.size, 6, none⟩ = some (.slice ao_p L_p cap_p) := fun o => keepR c_a4_6 ((Below.refl _ _).alloc (Nat.le_refl _) o)
        have a_res4_0 : ∀ o, (W4.alloc o).cell? ⟨w.heap.size + 1, 0, none⟩ = some (.int .i64 0) := fun o => keepR c_res4_0 ((Below.refl _ _).alloc (Nat.le_refl _) o)
        have a_res4_1 : ∀ o, (W4.alloc o).cell? ⟨w.heap.size + 1, 1, none⟩ = some (.int .i64 0) := fun o => keepR c_res4_1 ((Below.refl _ _).alloc (Nat.le_refl _) o)
        have a_res4_2 : ∀ o, (W4.alloc o).cell? ⟨w.heap.size + 1, 2, none⟩ = some (.int .i64 0) := fun o => keepR c_res4_2 ((Below.refl _ _).alloc (Nat.le_refl _) o)
        have a_res4_3 : ∀ o, (W4.alloc o).cell? ⟨w.heap.size + 1, 3, none⟩ = some (.int .i64 0) := fun o => keepR c_res4_3 ((Below.refl _ _).alloc (Nat.le_refl _) o)
        have a_res4_4 : ∀ o, (W4.alloc o).cell? ⟨w.heap.size + 1, 4, none⟩ = some (.string ⟨#[]⟩) := fun o => keepR c_res4_4 ((Below.refl _ _).alloc (Nat.le_refl _) o)
        have a_res4_5 : ∀ o, (W4.alloc o).cell? ⟨w.heap.size + 1, 5, none⟩ = some (.int .i64 0) := fun o => keepR c_res4_5 ((Below.refl _ _).alloc (Nat.le_refl _) o)
        have a_res4_6 : ∀ o, (W4.alloc o).cell? ⟨w.heap.size + 1, 6, none⟩ = some (.slice none 0 0) := fun o => keepR c_res4_6 ((Below.refl _ _).alloc (Nat.le_refl _) o)
        obtain ⟨W5, HW5, b5, y5, hS5, r_li5⟩ : ∃ X, Hid ((W4.alloc (.cells #[.int .i64 (-1), .int .i64 h.n, .int .i64 0] 3)) = X) ∧ Below W4.heap.size W4 X ∧ W4.heap.size + 1 ≤ X.heap.size ∧ Hid (X.heap.size = W4.heap.size + 1) ∧ Hid (X.heap[W4.heap.size]? = some (.cells #[.int .i64 (-1), .int .i64 h.n, .int .i64 0] 3 (0, 0))) := ⟨_, rfl, ((Below.refl _ _).alloc (Nat.le_refl _) _), by simp, by show _ = _; simp, (by show _ = _; exact alloc_nth1_0 W4 _)⟩
        have z5 : W4.heap.size ≤ W5.heap.size := b5.size
        have B5 : Hid (Apart g (g + 1) w W5) := B4.out.grow b5
        have r_a5 : Hid (W5.heap[w.heap.size]? = some (.cells #[.int .i64 k, .int .i64 f, .int .i64 t, .int .i64 h.n, .string h.r, .int .i64 n, .slice ao_p L_p cap_p] 28 (0, 0))) := rowKeep r_a4.out b5
        have r_res5 : Hid (W5.heap[w.heap.size + 1]? = some (.cells #[.int .i64 0, .int .i64 0, .int .i64 0, .int .i64 0, .string ⟨#[]⟩, .int .i64 0, .slice none 0 0] 28 (0, 0))) := rowKeep r_res4.out b5
        have o_p5 : Hid (Own W5 (W1.heap.size) (W2.heap.size) 9 (.slice ao_p L_p cap_p) (ss x)) := Own.later o_p4.out b5 (by omega)
        have c_a5_0 : W5.cell? ⟨w.heap.size, 0, none⟩ = some (.int .i64 k) := row_at r_a5.out 0
        have c_a5_1 : W5.cell? ⟨w.heap.size, 1, none⟩ = some (.int .i64 f) := row_at r_a5.out 1
        have c_a5_2 : W5.cell? ⟨w.heap.size, 2, none⟩ = some (.int .i64 t) := row_at r_a5.out 2
        have c_a5_3 : W5.cell? ⟨w.heap.size, 3, none⟩ = some (.int .i64 h.n) := row_at r_a5.out 3
        have c_a5_4 : W5.cell? ⟨w.heap.size, 4, none⟩ = some (.string h.r) := row_at r_a5.out 4
        have c_a5_5 : W5.cell? ⟨w.heap.size, 5, none⟩ = some (.int .i64 n) := row_at r_a5.out 5
        have c_a5_6 : W5.cell? ⟨w.heap.size, 6, none⟩ = some (.slice ao_p L_p cap_p) := row_at r_a5.out 6
        have c_res5_0 : W5.cell? ⟨w.heap.size + 1, 0, none⟩ = some (.int .i64 0) := row_at r_res5.out 0
        have c_res5_1 : W5.cell? ⟨w.heap.size + 1, 1, none⟩ = some (.int .i64 0) := row_at r_res5.out 1
        have c_res5_2 : W5.cell? ⟨w.heap.size + 1, 2, none⟩ = some (.int .i64 0) := row_at r_res5.out 2
        have c_res5_3 : W5.cell? ⟨w.heap.size + 1, 3, none⟩ = some (.int .i64 0) := row_at r_res5.out 3
        have c_res5_4 : W5.cell? ⟨w.heap.size + 1, 4, none⟩ = some (.string ⟨#[]⟩) := row_at r_res5.out 4
        have c_res5_5 : W5.cell? ⟨w.heap.size + 1, 5, none⟩ = some (.int .i64 0) := row_at r_res5.out 5
        have c_res5_6 : W5.cell? ⟨w.heap.size + 1, 6, none⟩ = some (.slice none 0 0) := row_at r_res5.out 6
        have c_li5_0 : W5.cell? ⟨W4.heap.size, 0, none⟩ = some (.int .i64 (-1)) := row_at r_li5.out 0
        have c_li5_1 : W5.cell? ⟨W4.heap.size, 1, none⟩ = some (.int .i64 h.n) := row_at r_li5.out 1
        have c_li5_2 : W5.cell? ⟨W4.heap.size, 2, none⟩ = some (.int .i64 0) := row_at r_li5.out 2
        clear r_a4 c_a4_0 c_a4_1 c_a4_2 c_a4_3 c_a4_4 c_a4_5 c_a4_6 r_res4 c_res4_0 c_res4_1 c_res4_2 c_res4_3 c_res4_4 c_res4_5 c_res4_6 o_p4
        have cu5 : Hid (Cur W5 (g) vb xs.length) := cu4.out.keep b5
        have bw5 : Hid (Below W0.heap.size W0 W5) := bw4.out.trans (b5.mono bw4.out.size)
        clear cu4 bw4
        go_wp2_with fail
        rw [HW5.out]
        clear a_a4_0 a_a4_1 a_a4_2 a_a4_3 a_a4_4 a_a4_5 a_a4_6 a_res4_0 a_res4_1 a_res4_2 a_res4_3 a_res4_4 a_res4_5 a_res4_6
        refine (int_any W0 W5 g _ xs (W4.heap.size) [-1, h.n, 0] r_li5.out (by omega) (by simp) (by simp) HSW.out hby hx bw5.out hg cu5.out).mono ?_
        rintro e W6 ⟨i, rfl, him, d6⟩
        have z6 : W5.heap.size ≤ W6.heap.size := d6.apart.size
        have B6 : Hid (Apart g (g + 1) w W6) := B5.out.trans d6.apart
        have cu6 : Hid (Cur W6 (g) vb xs.length) := d6.cur
        have bw6 : Hid (Below W0.heap.size W0 W6) := d6.below
        have r_a6 : Hid (W6.heap[w.heap.size]? = some (.cells #[.int .i64 k, .int .i64 f, .int .i64 t, .int .i64 h.n, .string h.r, .int .i64 n, .slice ao_p L_p cap_p] 28 (0, 0))) := drawn_row r_a5.out d6 (by omega)
        have r_res6 : Hid (W6.heap[w.heap.size + 1]? = some (.cells #[.int .i64 0, .int .i64 0, .int .i64 0, .int .i64 0, .string ⟨#[]⟩, .int .i64 0, .slice none 0 0] 28 (0, 0))) := drawn_row r_res5.out d6 (by omega)
        have r_li6 : Hid (W6.heap[W4.heap.size]? = some (.cells #[.int .i64 (-1), .int .i64 h.n, .int .i64 0] 3 (0, 0))) := drawn_row r_li5.out d6 (by omega)
        have o_p6 : Hid (Own W6 (W1.heap.size) (W2.heap.size) 9 (.slice ao_p L_p cap_p) (ss x)) := Own.drawn o_p5.out d6 (by omega) (by omega)
        have c_a6_0 : W6.cell? ⟨w.heap.size, 0, none⟩ = some (.int .i64 k) := row_at r_a6.out 0
        have c_a6_1 : W6.cell? ⟨w.heap.size, 1, none⟩ = some (.int .i64 f) := row_at r_a6.out 1
        have c_a6_2 : W6.cell? ⟨w.heap.size, 2, none⟩ = some (.int .i64 t) := row_at r_a6.out 2
        have c_a6_3 : W6.cell? ⟨w.heap.size, 3, none⟩ = some (.int .i64 h.n) := row_at r_a6.out 3
        have c_a6_4 : W6.cell? ⟨w.heap.size, 4, none⟩ = some (.string h.r) := row_at r_a6.out 4
        have c_a6_5 : W6.cell? ⟨w.heap.size, 5, none⟩ = some (.int .i64 n) := row_at r_a6.out 5
        have c_a6_6 : W6.cell? ⟨w.heap.size, 6, none⟩ = some (.slice ao_p L_p cap_p) := row_at r_a6.out 6
        have c_res6_0 : W6.cell? ⟨w.heap.size + 1, 0, none⟩ = some (.int .i64 0) := row_at r_res6.out 0
        have c_res6_1 : W6.cell? ⟨w.heap.size + 1, 1, none⟩ = some (.int .i64 0) := row_at r_res6.out 1
        have c_res6_2 : W6.cell? ⟨w.heap.size + 1, 2, none⟩ = some (.int .i64 0) := row_at r_res6.out 2
        have c_res6_3 : W6.cell? ⟨w.heap.size + 1, 3, none⟩ = some (.int .i64 0) := row_at r_res6.out 3
        have c_res6_4 : W6.cell? ⟨w.heap.size + 1, 4, none⟩ = some (.string ⟨#[]⟩) := row_at r_res6.out 4
        have c_res6_5 : W6.cell? ⟨w.heap.size + 1, 5, none⟩ = some (.int .i64 0) := row_at r_res6.out 5
        have c_res6_6 : W6.cell? ⟨w.heap.size + 1, 6, none⟩ = some (.slice none 0 0) := row_at r_res6.out 6
        have c_li6_0 : W6.cell? ⟨W4.heap.size, 0, none⟩ = some (.int .i64 (-1)) := row_at r_li6.out 0
        have c_li6_1 : W6.cell? ⟨W4.heap.size, 1, none⟩ = some (.int .i64 h.n) := row_at r_li6.out 1
        have c_li6_2 : W6.cell? ⟨W4.heap.size, 2, none⟩ = some (.int .i64 0) := row_at r_li6.out 2
        clear r_a5 c_a5_0 c_a5_1 c_a5_2 c_a5_3 c_a5_4 c_a5_5 c_a5_6 r_res5 c_res5_0 c_res5_1 c_res5_2 c_res5_3 c_res5_4 c_res5_5 c_res5_6 r_li5 c_li5_0 c_li5_1 c_li5_2 o_p5
        clear cu5 bw5 d6
        clear r_li6 c_li6_0 c_li6_1 c_li6_2
        go_wp2_with (refine wpl_oneG rfl 3 _ _ rfl (w.heap.size) 5 (.int .i64 i) rfl rfl [.int .i64 k, .int .i64 f, .int .i64 t, .int .i64 h.n, .string h.r, .int .i64 n, .slice ao_p L_p cap_p] 28 r_a6.out (Nat.le_of_ble_eq_true rfl) (by kernel_rfl) rfl [.int .i64 k, .int .i64 f, .int .i64 t, .int .i64 h.n, .string h.r, .int .i64 i, .slice ao_p L_p cap_p] rfl ?_)
        intro W7 r_a7 g7
        have cu7 : Hid (Cur W7 (g) vb xs.length) := cu6.out.gro g7 (fun h9 => by injection h9 with h9; omega)
        have bw7 : Hid (Below W0.heap.size W0 W7) := belowGro bw6.out g7 bw6.out.size (fun k9 h9 => by injection h9 with h9; omega)
        clear cu6 bw6
        have r_a7 : Hid (W7.heap[w.heap.size]? = some (.cells #[.int .i64 k, .int .i64 f, .int .i64 t, .int .i64 h.n, .string h.r, .int .i64 i, .slice ao_p L_p cap_p] 28 (0, 0))) := r_a7
        have z7 : W6.heap.size ≤ W7.heap.size := g7.size
        have B7 : Hid (Apart g (g + 1) w W7) := Apart.groM B6.out g7 (fun k9 h9 => by injection h9 with h9; have := B6.out.size; omega)
        have r_res7 : Hid (W7.heap[w.heap.size + 1]? = some (.cells #[.int .i64 0, .int .i64 0, .int .i64 0, .int .i64 0, .string ⟨#[]⟩, .int .i64 0, .slice none 0 0] 28 (0, 0))) := rowGro r_res6.out g7 (fun h9 => by injection h9 with h9; omega)
        have o_p7 : Hid (Own W7 (W1.heap.size) (W2.heap.size) 9 (.slice ao_p L_p cap_p) (ss x)) := Own.gro o_p6.out g7 (fun k9 h9 e9 => Own.neRow o_p6.out r_a6.out (by decide) (h9.trans e9.symm))
        have c_a7_0 : W7.cell? ⟨w.heap.size, 0, none⟩ = some (.int .i64 k) := row_at r_a7.out 0
        have c_a7_1 : W7.cell? ⟨w.heap.size, 1, none⟩ = some (.int .i64 f) := row_at r_a7.out 1
        have c_a7_2 : W7.cell? ⟨w.heap.size, 2, none⟩ = some (.int .i64 t) := row_at r_a7.out 2
        have c_a7_3 : W7.cell? ⟨w.heap.size, 3, none⟩ = some (.int .i64 h.n) := row_at r_a7.out 3
        have c_a7_4 : W7.cell? ⟨w.heap.size, 4, none⟩ = some (.string h.r) := row_at r_a7.out 4
        have c_a7_5 : W7.cell? ⟨w.heap.size, 5, none⟩ = some (.int .i64 i) := row_at r_a7.out 5
        have c_a7_6 : W7.cell? ⟨w.heap.size, 6, none⟩ = some (.slice ao_p L_p cap_p) := row_at r_a7.out 6
        have c_res7_0 : W7.cell? ⟨w.heap.size + 1, 0, none⟩ = some (.int .i64 0) := row_at r_res7.out 0
        have c_res7_1 : W7.cell? ⟨w.heap.size + 1, 1, none⟩ = some (.int .i64 0) := row_at r_res7.out 1
        have c_res7_2 : W7.cell? ⟨w.heap.size + 1, 2, none⟩ = some (.int .i64 0) := row_at r_res7.out 2
        have c_res7_3 : W7.cell? ⟨w.heap.size + 1, 3, none⟩ = some (.int .i64 0) := row_at r_res7.out 3
        have c_res7_4 : W7.cell? ⟨w.heap.size + 1, 4, none⟩ = some (.string ⟨#[]⟩) := row_at r_res7.out 4
        have c_res7_5 : W7.cell? ⟨w.heap.size + 1, 5, none⟩ = some (.int .i64 0) := row_at r_res7.out 5
        have c_res7_6 : W7.cell? ⟨w.heap.size + 1, 6, none⟩ = some (.slice none 0 0) := row_at r_res7.out 6
        clear r_res6 c_res6_0 c_res6_1 c_res6_2 c_res6_3 c_res6_4 c_res6_5 c_res6_6 o_p6
        clear r_a6 c_a6_0 c_a6_1 c_a6_2 c_a6_3 c_a6_4 c_a6_5 c_a6_6
        clear g7
        go_wp2_with (first | (refine wpList_load_row rfl 28 _ rfl (w.heap.size) rfl 28 (mc ⟨k, f, t, h, i, x⟩ (.slice ao_p L_p cap_p)) (0, 0) _ r_a7.out Try.underlying28 rfl (sizeM _ _) ?_) | (refine wpl_partG rfl 28 _ _ rfl (w.heap.size + 1) 0 (mc ⟨k, f, t, h, i, x⟩ (.slice ao_p L_p cap_p)) rfl rfl [.int .i64 0, .int .i64 0, .int .i64 0, .int .i64 0, .string ⟨#[]⟩, .int .i64 0, .slice none 0 0] 28 r_res7.out (Nat.le_of_ble_eq_true rfl) (sizeM _ _) (oneM _ rfl) [.int .i64 k, .int .i64 f, .int .i64 t, .int .i64 h.n, .string h.r, .int .i64 i, .slice ao_p L_p cap_p] rfl ?_))
        intro W8 r_res8 g8
        have cu8 : Hid (Cur W8 (g) vb xs.length) := cu7.out.gro g8 (fun h9 => by injection h9 with h9; omega)
        have bw8 : Hid (Below W0.heap.size W0 W8) := belowGro bw7.out g8 bw7.out.size (fun k9 h9 => by injection h9 with h9; omega)
        clear cu7 bw7
        have r_res8 : Hid (W8.heap[w.heap.size + 1]? = some (.cells #[.int .i64 k, .int .i64 f, .int .i64 t, .int .i64 h.n, .string h.r, .int .i64 i, .slice ao_p L_p cap_p] 28 (0, 0))) := r_res8
        have z8 : W7.heap.size ≤ W8.heap.size := g8.size
        have B8 : Hid (Apart g (g + 1) w W8) := Apart.groM B7.out g8 (fun k9 h9 => by injection h9 with h9; have := B7.out.size; omega)
        have r_a8 : Hid (W8.heap[w.heap.size]? = some (.cells #[.int .i64 k, .int .i64 f, .int .i64 t, .int .i64 h.n, .string h.r, .int .i64 i, .slice ao_p L_p cap_p] 28 (0, 0))) := rowGro r_a7.out g8 (fun h9 => by injection h9 with h9; omega)
        have o_p8 : Hid (Own W8 (W1.heap.size) (W2.heap.size) 9 (.slice ao_p L_p cap_p) (ss x)) := Own.gro o_p7.out g8 (fun k9 h9 e9 => Own.neRow o_p7.out r_res7.out (by decide) (h9.trans e9.symm))
        have c_a8_0 : W8.cell? ⟨w.heap.size, 0, none⟩ = some (.int .i64 k) := row_at r_a8.out 0
        have c_a8_1 : W8.cell? ⟨w.heap.size, 1, none⟩ = some (.int .i64 f) := row_at r_a8.out 1
        have c_a8_2 : W8.cell? ⟨w.heap.size, 2, none⟩ = some (.int .i64 t) := row_at r_a8.out 2
        have c_a8_3 : W8.cell? ⟨w.heap.size, 3, none⟩ = some (.int .i64 h.n) := row_at r_a8.out 3
        have c_a8_4 : W8.cell? ⟨w.heap.size, 4, none⟩ = some (.string h.r) := row_at r_a8.out 4
        have c_a8_5 : W8.cell? ⟨w.heap.size, 5, none⟩ = some (.int .i64 i) := row_at r_a8.out 5
        have c_a8_6 : W8.cell? ⟨w.heap.size, 6, none⟩ = some (.slice ao_p L_p cap_p) := row_at r_a8.out 6
        have c_res8_0 : W8.cell? ⟨w.heap.size + 1, 0, none⟩ = some (.int .i64 k) := row_at r_res8.out 0
        have c_res8_1 : W8.cell? ⟨w.heap.size + 1, 1, none⟩ = some (.int .i64 f) := row_at r_res8.out 1
        have c_res8_2 : W8.cell? ⟨w.heap.size + 1, 2, none⟩ = some (.int .i64 t) := row_at r_res8.out 2
        have c_res8_3 : W8.cell? ⟨w.heap.size + 1, 3, none⟩ = some (.int .i64 h.n) := row_at r_res8.out 3
        have c_res8_4 : W8.cell? ⟨w.heap.size + 1, 4, none⟩ = some (.string h.r) := row_at r_res8.out 4
        have c_res8_5 : W8.cell? ⟨w.heap.size + 1, 5, none⟩ = some (.int .i64 i) := row_at r_res8.out 5
        have c_res8_6 : W8.cell? ⟨w.heap.size + 1, 6, none⟩ = some (.slice ao_p L_p cap_p) := row_at r_res8.out 6
        clear r_a7 c_a7_0 c_a7_1 c_a7_2 c_a7_3 c_a7_4 c_a7_5 c_a7_6 o_p7
        clear r_res7 c_res7_0 c_res7_1 c_res7_2 c_res7_3 c_res7_4 c_res7_5 c_res7_6
        go_wp2
        exact bodyPost_ret (v := .agg (mc ⟨k, f, t, h, i, x⟩ (.slice ao_p L_p cap_p))) (results_cell_row rfl _ _ (w.heap.size + 1) 28 _ (0, 0) _ rfl r_res8.out Try.underlying28 rfl (sizeM _ _)) rfl ⟨⟨k, f, t, h, i, x⟩, .slice ao_p L_p cap_p, rfl, ⟨by simp only; omega, HSZ.out, hhd⟩, Own.mono o_p8.out (by omega) (by omega), ⟨cu8.out, B8.out, bw8.out⟩⟩
      · have y2b : (y == 2) = false := by rw [beq_eq_false_iff_ne]; exact y2
        by_cases y3 : y = 3
        · subst y3
          have kx6 := c_a4_6
          have a_a4_0 : ∀ o, (W4.alloc o).cell? ⟨w.heap.size, 0, none⟩ = some (.int .i64 k) := fun o => keepR c_a4_0 ((Below.refl _ _).alloc (Nat.le_refl _) o)
          have a_a4_1 : ∀ o, (W4.alloc o).cell? ⟨w.heap.size, 1, none⟩ = some (.int .i64 f) := fun o => keepR c_a4_1 ((Below.refl _ _).alloc (Nat.le_refl _) o)
          have a_a4_2 : ∀ o, (W4.alloc o).cell? ⟨w.heap.size, 2, none⟩ = some (.int .i64 t) := fun o => keepR c_a4_2 ((Below.refl _ _).alloc (Nat.le_refl _) o)
          have a_a4_3 : ∀ o, (W4.alloc o).cell? ⟨w.heap.size, 3, none⟩ = some (.int .i64 h.n) := fun o => keepR c_a4_3 ((Below.refl _ _).alloc (Nat.le_refl _) o)
          have a_a4_4 : ∀ o, (W4.alloc o).cell? ⟨w.heap.size, 4, none⟩ = some (.string h.r) := fun o => keepR c_a4_4 ((Below.refl _ _).alloc (Nat.le_refl _) o)
          have a_a4_5 : ∀ o, (W4.alloc o).cell? ⟨w.heap.size, 5, none⟩ = some (.int .i64 n) := fun o => keepR c_a4_5 ((Below.refl _ _).alloc (Nat.le_refl _) o)
          have a_a4_6 : ∀ o, (W4.alloc o).cell? ⟨w.heap.size, 6, none⟩ = some (.slice ao_p L_p cap_p) := fun o => keepR c_a4_6 ((Below.refl _ _).alloc (Nat.le_refl _) o)
          have a_res4_0 : ∀ o, (W4.alloc o).cell? ⟨w.heap.size + 1, 0, none⟩ = some (.int .i64 0) := fun o => keepR c_res4_0 ((Below.refl _ _).alloc (Nat.le_refl _) o)
          have a_res4_1 : ∀ o, (W4.alloc o).cell? ⟨w.heap.size + 1, 1, none⟩ = some (.int .i64 0) := fun o => keepR c_res4_1 ((Below.refl _ _).alloc (Nat.le_refl _) o)
          have a_res4_2 : ∀ o, (W4.alloc o).cell? ⟨w.heap.size + 1, 2, none⟩ = some (.int .i64 0) := fun o => keepR c_res4_2 ((Below.refl _ _).alloc (Nat.le_refl _) o)
          have a_res4_3 : ∀ o, (W4.alloc o).cell? ⟨w.heap.size + 1, 3, none⟩ = some (.int .i64 0) := fun o => keepR c_res4_3 ((Below.refl _ _).alloc (Nat.le_refl _) o)
          have a_res4_4 : ∀ o, (W4.alloc o).cell? ⟨w.heap.size + 1, 4, none⟩ = some (.string ⟨#[]⟩) := fun o => keepR c_res4_4 ((Below.refl _ _).alloc (Nat.le_refl _) o)
          have a_res4_5 : ∀ o, (W4.alloc o).cell? ⟨w.heap.size + 1, 5, none⟩ = some (.int .i64 0) := fun o => keepR c_res4_5 ((Below.refl _ _).alloc (Nat.le_refl _) o)
          have a_res4_6 : ∀ o, (W4.alloc o).cell? ⟨w.heap.size + 1, 6, none⟩ = some (.slice none 0 0) := fun o => keepR c_res4_6 ((Below.refl _ _).alloc (Nat.le_refl _) o)
          obtain ⟨W5, HW5, b5, hS5, o_e5⟩ : ∃ X, Hid ((W4.alloc (.cells #[.string ⟨#[120]⟩] 9)) = X) ∧ Below W4.heap.size W4 X ∧ Hid (X.heap.size = W4.heap.size + 1) ∧ Hid (Own X W4.heap.size X.heap.size 9 (.slice (some ⟨W4.heap.size, 0, none⟩) 1 1) (ss [⟨#[120]⟩])) := ⟨_, rfl, (Below.refl _ _).alloc (Nat.le_refl _) _, (by show _ = _; simp), lit1M W4 W4.heap.size ⟨#[120]⟩ (Nat.le_refl _)⟩
          have z5 : W4.heap.size ≤ W5.heap.size := b5.size
          have B5 : Hid (Apart g (g + 1) w W5) := B4.out.grow b5
          have r_a5 : Hid (W5.heap[w.heap.size]? = some (.cells #[.int .i64 k, .int .i64 f, .int .i64 t, .int .i64 h.n, .string h.r, .int .i64 n, .slice ao_p L_p cap_p] 28 (0, 0))) := rowKeep r_a4.out b5
          have r_res5 : Hid (W5.heap[w.heap.size + 1]? = some (.cells #[.int .i64 0, .int .i64 0, .int .i64 0, .int .i64 0, .string ⟨#[]⟩, .int .i64 0, .slice none 0 0] 28 (0, 0))) := rowKeep r_res4.out b5
          have o_p5 : Hid (Own W5 (W1.heap.size) (W2.heap.size) 9 (.slice ao_p L_p cap_p) (ss x)) := Own.later o_p4.out b5 (by omega)
          have c_a5_0 : W5.cell? ⟨w.heap.size, 0, none⟩ = some (.int .i64 k) := row_at r_a5.out 0
          have c_a5_1 : W5.cell? ⟨w.heap.size, 1, none⟩ = some (.int .i64 f) := row_at r_a5.out 1
          have c_a5_2 : W5.cell? ⟨w.heap.size, 2, none⟩ = some (.int .i64 t) := row_at r_a5.out 2
          have c_a5_3 : W5.cell? ⟨w.heap.size, 3, none⟩ = some (.int .i64 h.n) := row_at r_a5.out 3
          have c_a5_4 : W5.cell? ⟨w.heap.size, 4, none⟩ = some (.string h.r) := row_at r_a5.out 4
          have c_a5_5 : W5.cell? ⟨w.heap.size, 5, none⟩ = some (.int .i64 n) := row_at r_a5.out 5
          have c_a5_6 : W5.cell? ⟨w.heap.size, 6, none⟩ = some (.slice ao_p L_p cap_p) := row_at r_a5.out 6
          have c_res5_0 : W5.cell? ⟨w.heap.size + 1, 0, none⟩ = some (.int .i64 0) := row_at r_res5.out 0
          have c_res5_1 : W5.cell? ⟨w.heap.size + 1, 1, none⟩ = some (.int .i64 0) := row_at r_res5.out 1
          have c_res5_2 : W5.cell? ⟨w.heap.size + 1, 2, none⟩ = some (.int .i64 0) := row_at r_res5.out 2
          have c_res5_3 : W5.cell? ⟨w.heap.size + 1, 3, none⟩ = some (.int .i64 0) := row_at r_res5.out 3
          have c_res5_4 : W5.cell? ⟨w.heap.size + 1, 4, none⟩ = some (.string ⟨#[]⟩) := row_at r_res5.out 4
          have c_res5_5 : W5.cell? ⟨w.heap.size + 1, 5, none⟩ = some (.int .i64 0) := row_at r_res5.out 5
          have c_res5_6 : W5.cell? ⟨w.heap.size + 1, 6, none⟩ = some (.slice none 0 0) := row_at r_res5.out 6
          clear r_a4 c_a4_0 c_a4_1 c_a4_2 c_a4_3 c_a4_4 c_a4_5 c_a4_6 r_res4 c_res4_0 c_res4_1 c_res4_2 c_res4_3 c_res4_4 c_res4_5 c_res4_6 o_p4
          have cu5 : Hid (Cur W5 (g) vb xs.length) := cu4.out.keep b5
          have bw5 : Hid (Below W0.heap.size W0 W5) := bw4.out.trans (b5.mono bw4.out.size)
          clear cu4 bw4
          have c6_6 : (ss x).length + (ss [⟨#[120]⟩]).length ≤ maxLen := by rw [ss_len, ss_len]; unfold maxLen; (try simp only [List.length_nil]); (try simp only [List.length_cons, List.length_nil]); omega
          have c7_6 : ((ss x).length + (ss [⟨#[120]⟩]).length) * 16 ≤ 140737488355328 := by rw [ss_len, ss_len]; (try simp only [List.length_nil]); (try simp only [List.length_cons, List.length_nil]); omega
          have sE6 : Hid (Sl W5 _ (ss [⟨#[120]⟩])) := o_e5.out.sl
          go_wp2_with (at_builtin; (try rw [HW5.out]); go_must (refine wpl_app _ rfl (.tmp 34) (.tmp 35) 26 rfl 9 i9 (.string ⟨#[]⟩) 16 Try.underlying26 hi9 hz9a hz9b hz9c rfl (W1.heap.size) _ (ss x) rfl (Own.mono o_p5.out (Nat.le_refl _) (by omega)) _ rfl (ss [⟨#[120]⟩]) sE6.out (ss_one [⟨#[120]⟩]) c6_6 c7_6 (by omega) ?_))
          intro v_z W6 o_z6 _ g6
          clear a_a4_0 a_a4_1 a_a4_2 a_a4_3 a_a4_4 a_a4_5 a_a4_6 a_res4_0 a_res4_1 a_res4_2 a_res4_3 a_res4_4 a_res4_5 a_res4_6
          have o_z6 : Own W6 (W1.heap.size) W6.heap.size 9 v_z (ss (x ++ [⟨#[120]⟩])) := by show Own _ _ _ _ _ _; rw [ss_app]; exact o_z6
          have o_z6h : Hid (Own W6 (W1.heap.size) W6.heap.size 9 v_z (ss (x ++ [⟨#[120]⟩]))) := o_z6
          have cu6 : Hid (Cur W6 (g) vb xs.length) := cu5.out.groOwn o_p5.out g6 (by decide)
          have bw6 : Hid (Below W0.heap.size W0 W6) := belowGro bw5.out g6 bw5.out.size (Own.low o_p5.out (by omega))
          clear cu5 bw5
          clear o_z6
          have o_z6 := o_z6h
          clear o_z6h
          obtain ⟨ao_z, L_z, cap_z, rfl, _, _⟩ := Mem.Own.form o_z6.out
          have z6 : W5.heap.size ≤ W6.heap.size := g6.size
          have B6 : Hid (Apart g (g + 1) w W6) := Apart.groM B5.out g6 (Own.low o_p5.out (by have := B5.out.size; omega))
          have r_a6 : Hid (W6.heap[w.heap.size]? = some (.cells #[.int .i64 k, .int .i64 f, .int .i64 t, .int .i64 h.n, .string h.r, .int .i64 n, .slice ao_p L_p cap_p] 28 (0, 0))) := rowGro r_a5.out g6 (Own.neRow o_p5.out r_a5.out (by decide))
          have r_res6 : Hid (W6.heap[w.heap.size + 1]? = some (.cells #[.int .i64 0, .int .i64 0, .int .i64 0, .int .i64 0, .string ⟨#[]⟩, .int .i64 0, .slice none 0 0] 28 (0, 0))) := rowGro r_res5.out g6 (Own.neRow o_p5.out r_res5.out (by decide))
          have o_e6 : Hid (Own W6 (W4.heap.size) (W5.heap.size) 9 (.slice (some ⟨W4.heap.size, 0, none⟩) 1 1) (ss [⟨#[120]⟩])) := Own.gro o_e5.out g6 (Own.neFar o_p5.out o_e5.out (by omega))
          have c_a6_0 : W6.cell? ⟨w.heap.size, 0, none⟩ = some (.int .i64 k) := row_at r_a6.out 0
          have c_a6_1 : W6.cell? ⟨w.heap.size, 1, none⟩ = some (.int .i64 f) := row_at r_a6.out 1
          have c_a6_2 : W6.cell? ⟨w.heap.size, 2, none⟩ = some (.int .i64 t) := row_at r_a6.out 2
          have c_a6_3 : W6.cell? ⟨w.heap.size, 3, none⟩ = some (.int .i64 h.n) := row_at r_a6.out 3
          have c_a6_4 : W6.cell? ⟨w.heap.size, 4, none⟩ = some (.string h.r) := row_at r_a6.out 4
          have c_a6_5 : W6.cell? ⟨w.heap.size, 5, none⟩ = some (.int .i64 n) := row_at r_a6.out 5
          have c_a6_6 : W6.cell? ⟨w.heap.size, 6, none⟩ = some (.slice ao_p L_p cap_p) := row_at r_a6.out 6
          have c_res6_0 : W6.cell? ⟨w.heap.size + 1, 0, none⟩ = some (.int .i64 0) := row_at r_res6.out 0
          have c_res6_1 : W6.cell? ⟨w.heap.size + 1, 1, none⟩ = some (.int .i64 0) := row_at r_res6.out 1
          have c_res6_2 : W6.cell? ⟨w.heap.size + 1, 2, none⟩ = some (.int .i64 0) := row_at r_res6.out 2
          have c_res6_3 : W6.cell? ⟨w.heap.size + 1, 3, none⟩ = some (.int .i64 0) := row_at r_res6.out 3
          have c_res6_4 : W6.cell? ⟨w.heap.size + 1, 4, none⟩ = some (.string ⟨#[]⟩) := row_at r_res6.out 4
          have c_res6_5 : W6.cell? ⟨w.heap.size + 1, 5, none⟩ = some (.int .i64 0) := row_at r_res6.out 5
          have c_res6_6 : W6.cell? ⟨w.heap.size + 1, 6, none⟩ = some (.slice none 0 0) := row_at r_res6.out 6
          clear r_a5 c_a5_0 c_a5_1 c_a5_2 c_a5_3 c_a5_4 c_a5_5 c_a5_6 r_res5 c_res5_0 c_res5_1 c_res5_2 c_res5_3 c_res5_4 c_res5_5 c_res5_6 o_p5 o_e5
          clear g6 sE6 c6_6 c7_6
          clear o_e6
          go_wp2_with (refine wpl_oneG rfl 26 _ _ rfl (w.heap.size) 6 (.slice ao_z L_z cap_z) rfl rfl [.int .i64 k, .int .i64 f, .int .i64 t, .int .i64 h.n, .string h.r, .int .i64 n, .slice ao_p L_p cap_p] 28 r_a6.out (Nat.le_of_ble_eq_true rfl) (by kernel_rfl) rfl [.int .i64 k, .int .i64 f, .int .i64 t, .int .i64 h.n, .string h.r, .int .i64 n, .slice ao_z L_z cap_z] rfl ?_)
          intro W7 r_a7 g7
          have cu7 : Hid (Cur W7 (g) vb xs.length) := cu6.out.gro g7 (fun h9 => by injection h9 with h9; omega)
          have bw7 : Hid (Below W0.heap.size W0 W7) := belowGro bw6.out g7 bw6.out.size (fun k9 h9 => by injection h9 with h9; omega)
          clear cu6 bw6
          have r_a7 : Hid (W7.heap[w.heap.size]? = some (.cells #[.int .i64 k, .int .i64 f, .int .i64 t, .int .i64 h.n, .string h.r, .int .i64 n, .slice ao_z L_z cap_z] 28 (0, 0))) := r_a7
          have z7 : W6.heap.size ≤ W7.heap.size := g7.size
          have B7 : Hid (Apart g (g + 1) w W7) := Apart.groM B6.out g7 (fun k9 h9 => by injection h9 with h9; have := B6.out.size; omega)
          have r_res7 : Hid (W7.heap[w.heap.size + 1]? = some (.cells #[.int .i64 0, .int .i64 0, .int .i64 0, .int .i64 0, .string ⟨#[]⟩, .int .i64 0, .slice none 0 0] 28 (0, 0))) := rowGro r_res6.out g7 (fun h9 => by injection h9 with h9; omega)
          have o_z7 : Hid (Own W7 (W1.heap.size) (W6.heap.size) 9 (.slice ao_z L_z cap_z) (ss (x ++ [⟨#[120]⟩]))) := Own.gro o_z6.out g7 (fun k9 h9 e9 => Own.neRow o_z6.out r_a6.out (by decide) (h9.trans e9.symm))
          have c_a7_0 : W7.cell? ⟨w.heap.size, 0, none⟩ = some (.int .i64 k) := row_at r_a7.out 0
          have c_a7_1 : W7.cell? ⟨w.heap.size, 1, none⟩ = some (.int .i64 f) := row_at r_a7.out 1
          have c_a7_2 : W7.cell? ⟨w.heap.size, 2, none⟩ = some (.int .i64 t) := row_at r_a7.out 2
          have c_a7_3 : W7.cell? ⟨w.heap.size, 3, none⟩ = some (.int .i64 h.n) := row_at r_a7.out 3
          have c_a7_4 : W7.cell? ⟨w.heap.size, 4, none⟩ = some (.string h.r) := row_at r_a7.out 4
          have c_a7_5 : W7.cell? ⟨w.heap.size, 5, none⟩ = some (.int .i64 n) := row_at r_a7.out 5
          have c_a7_6 : W7.cell? ⟨w.heap.size, 6, none⟩ = some (.slice ao_z L_z cap_z) := row_at r_a7.out 6
          have c_res7_0 : W7.cell? ⟨w.heap.size + 1, 0, none⟩ = some (.int .i64 0) := row_at r_res7.out 0
          have c_res7_1 : W7.cell? ⟨w.heap.size + 1, 1, none⟩ = some (.int .i64 0) := row_at r_res7.out 1
          have c_res7_2 : W7.cell? ⟨w.heap.size + 1, 2, none⟩ = some (.int .i64 0) := row_at r_res7.out 2
          have c_res7_3 : W7.cell? ⟨w.heap.size + 1, 3, none⟩ = some (.int .i64 0) := row_at r_res7.out 3
          have c_res7_4 : W7.cell? ⟨w.heap.size + 1, 4, none⟩ = some (.string ⟨#[]⟩) := row_at r_res7.out 4
          have c_res7_5 : W7.cell? ⟨w.heap.size + 1, 5, none⟩ = some (.int .i64 0) := row_at r_res7.out 5
          have c_res7_6 : W7.cell? ⟨w.heap.size + 1, 6, none⟩ = some (.slice none 0 0) := row_at r_res7.out 6
          clear r_res6 c_res6_0 c_res6_1 c_res6_2 c_res6_3 c_res6_4 c_res6_5 c_res6_6 o_z6
          clear r_a6 c_a6_0 c_a6_1 c_a6_2 c_a6_3 c_a6_4 c_a6_5 c_a6_6
          clear g7
          go_wp2_with (first | (refine wpList_load_row rfl 28 _ rfl (w.heap.size) rfl 28 (mc ⟨k, f, t, h, n, x ++ [⟨#[120]⟩]⟩ (.slice ao_z L_z cap_z)) (0, 0) _ r_a7.out Try.underlying28 rfl (sizeM _ _) ?_) | (refine wpl_partG rfl 28 _ _ rfl (w.heap.size + 1) 0 (mc ⟨k, f, t, h, n, x ++ [⟨#[120]⟩]⟩ (.slice ao_z L_z cap_z)) rfl rfl [.int .i64 0, .int .i64 0, .int .i64 0, .int .i64 0, .string ⟨#[]⟩, .int .i64 0, .slice none 0 0] 28 r_res7.out (Nat.le_of_ble_eq_true rfl) (sizeM _ _) (oneM _ rfl) [.int .i64 k, .int .i64 f, .int .i64 t, .int .i64 h.n, .string h.r, .int .i64 n, .slice ao_z L_z cap_z] rfl ?_))
          intro W8 r_res8 g8
          have cu8 : Hid (Cur W8 (g) vb xs.length) := cu7.out.gro g8 (fun h9 => by injection h9 with h9; omega)
          have bw8 : Hid (Below W0.heap.size W0 W8) := belowGro bw7.out g8 bw7.out.size (fun k9 h9 => by injection h9 with h9; omega)
          clear cu7 bw7
          have r_res8 : Hid (W8.heap[w.heap.size + 1]? = some (.cells #[.int .i64 k, .int .i64 f, .int .i64 t, .int .i64 h.n, .string h.r, .int .i64 n, .slice ao_z L_z cap_z] 28 (0, 0))) := r_res8
          have z8 : W7.heap.size ≤ W8.heap.size := g8.size
          have B8 : Hid (Apart g (g + 1) w W8) := Apart.groM B7.out g8 (fun k9 h9 => by injection h9 with h9; have := B7.out.size; omega)
          have r_a8 : Hid (W8.heap[w.heap.size]? = some (.cells #[.int .i64 k, .int .i64 f, .int .i64 t, .int .i64 h.n, .string h.r, .int .i64 n, .slice ao_z L_z cap_z] 28 (0, 0))) := rowGro r_a7.out g8 (fun h9 => by injection h9 with h9; omega)
          have o_z8 : Hid (Own W8 (W1.heap.size) (W6.heap.size) 9 (.slice ao_z L_z cap_z) (ss (x ++ [⟨#[120]⟩]))) := Own.gro o_z7.out g8 (fun k9 h9 e9 => Own.neRow o_z7.out r_res7.out (by decide) (h9.trans e9.symm))
          have c_a8_0 : W8.cell? ⟨w.heap.size, 0, none⟩ = some (.int .i64 k) := row_at r_a8.out 0
          have c_a8_1 : W8.cell? ⟨w.heap.size, 1, none⟩ = some (.int .i64 f) := row_at r_a8.out 1
          have c_a8_2 : W8.cell? ⟨w.heap.size, 2, none⟩ = some (.int .i64 t) := row_at r_a8.out 2
          have c_a8_3 : W8.cell? ⟨w.heap.size, 3, none⟩ = some (.int .i64 h.n) := row_at r_a8.out 3
          have c_a8_4 : W8.cell? ⟨w.heap.size, 4, none⟩ = some (.string h.r) := row_at r_a8.out 4
          have c_a8_5 : W8.cell? ⟨w.heap.size, 5, none⟩ = some (.int .i64 n) := row_at r_a8.out 5
          have c_a8_6 : W8.cell? ⟨w.heap.size, 6, none⟩ = some (.slice ao_z L_z cap_z) := row_at r_a8.out 6
          have c_res8_0 : W8.cell? ⟨w.heap.size + 1, 0, none⟩ = some (.int .i64 k) := row_at r_res8.out 0
          have c_res8_1 : W8.cell? ⟨w.heap.size + 1, 1, none⟩ = some (.int .i64 f) := row_at r_res8.out 1
          have c_res8_2 : W8.cell? ⟨w.heap.size + 1, 2, none⟩ = some (.int .i64 t) := row_at r_res8.out 2
          have c_res8_3 : W8.cell? ⟨w.heap.size + 1, 3, none⟩ = some (.int .i64 h.n) := row_at r_res8.out 3
          have c_res8_4 : W8.cell? ⟨w.heap.size + 1, 4, none⟩ = some (.string h.r) := row_at r_res8.out 4
          have c_res8_5 : W8.cell? ⟨w.heap.size + 1, 5, none⟩ = some (.int .i64 n) := row_at r_res8.out 5
          have c_res8_6 : W8.cell? ⟨w.heap.size + 1, 6, none⟩ = some (.slice ao_z L_z cap_z) := row_at r_res8.out 6
          clear r_a7 c_a7_0 c_a7_1 c_a7_2 c_a7_3 c_a7_4 c_a7_5 c_a7_6 o_z7
          clear r_res7 c_res7_0 c_res7_1 c_res7_2 c_res7_3 c_res7_4 c_res7_5 c_res7_6
          go_wp2
          exact bodyPost_ret (v := .agg (mc ⟨k, f, t, h, n, x ++ [⟨#[120]⟩]⟩ (.slice ao_z L_z cap_z))) (results_cell_row rfl _ _ (w.heap.size + 1) 28 _ (0, 0) _ rfl r_res8.out Try.underlying28 rfl (sizeM _ _)) rfl ⟨⟨k, f, t, h, n, x ++ [⟨#[120]⟩]⟩, .slice ao_z L_z cap_z, rfl, ⟨by simp <;> omega, by intro s hs9; rcases List.mem_append.1 hs9 with h9 | h9; exact HSZ.out s h9; rw [List.mem_singleton.1 h9]; show (1 : Nat) ≤ 3; omega, hhd⟩, Own.mono o_z8.out (by omega) (by omega), ⟨cu8.out, B8.out, bw8.out⟩⟩
        · have y3b : (y == 3) = false := by rw [beq_eq_false_iff_ne]; exact y3
          by_cases y4 : y = 4
          · subst y4
            have a_a4_0 : ∀ o, (W4.alloc o).cell? ⟨w.heap.size, 0, none⟩ = some (.int .i64 k) := fun o => keepR c_a4_0 ((Below.refl _ _).alloc (Nat.le_refl _) o)
            have a_a4_1 : ∀ o, (W4.alloc o).cell? ⟨w.heap.size, 1, none⟩ = some (.int .i64 f) := fun o => keepR c_a4_1 ((Below.refl _ _).alloc (Nat.le_refl _) o)
            have a_a4_2 : ∀ o, (W4.alloc o).cell? ⟨w.heap.size, 2, none⟩ = some (.int .i64 t) := fun o => keepR c_a4_2 ((Below.refl _ _).alloc (Nat.le_refl _) o)
            have a_a4_3 : ∀ o, (W4.alloc o).cell? ⟨w.heap.size, 3, none⟩ = some (.int .i64 h.n) := fun o => keepR c_a4_3 ((Below.refl _ _).alloc (Nat.le_refl _) o)
            have a_a4_4 : ∀ o, (W4.alloc o).cell? ⟨w.heap.size, 4, none⟩ = some (.string h.r) := fun o => keepR c_a4_4 ((Below.refl _ _).alloc (Nat.le_refl _) o)
            have a_a4_5 : ∀ o, (W4.alloc o).cell? ⟨w.heap.size, 5, none⟩ = some (.int .i64 n) := fun o => keepR c_a4_5 ((Below.refl _ _).alloc (Nat.le_refl _) o)
            have a_a4_6 : ∀ o, (W4.alloc o).cell? ⟨w.heap.size, 6, none⟩ = some (.slice ao_p L_p cap_p) := fun o => keepR c_a4_6 ((Below.refl _ _).alloc (Nat.le_refl _) o)
            have a_res4_0 : ∀ o, (W4.alloc o).cell? ⟨w.heap.size + 1, 0, none⟩ = some (.int .i64 0) := fun o => keepR c_res4_0 ((Below.refl _ _).alloc (Nat.le_refl _) o)
            have a_res4_1 : ∀ o, (W4.alloc o).cell? ⟨w.heap.size + 1, 1, none⟩ = some (.int .i64 0) := fun o => keepR c_res4_1 ((Below.refl _ _).alloc (Nat.le_refl _) o)
            have a_res4_2 : ∀ o, (W4.alloc o).cell? ⟨w.heap.size + 1, 2, none⟩ = some (.int .i64 0) := fun o => keepR c_res4_2 ((Below.refl _ _).alloc (Nat.le_refl _) o)
            have a_res4_3 : ∀ o, (W4.alloc o).cell? ⟨w.heap.size + 1, 3, none⟩ = some (.int .i64 0) := fun o => keepR c_res4_3 ((Below.refl _ _).alloc (Nat.le_refl _) o)
            have a_res4_4 : ∀ o, (W4.alloc o).cell? ⟨w.heap.size + 1, 4, none⟩ = some (.string ⟨#[]⟩) := fun o => keepR c_res4_4 ((Below.refl _ _).alloc (Nat.le_refl _) o)
            have a_res4_5 : ∀ o, (W4.alloc o).cell? ⟨w.heap.size + 1, 5, none⟩ = some (.int .i64 0) := fun o => keepR c_res4_5 ((Below.refl _ _).alloc (Nat.le_refl _) o)
            have a_res4_6 : ∀ o, (W4.alloc o).cell? ⟨w.heap.size + 1, 6, none⟩ = some (.slice none 0 0) := fun o => keepR c_res4_6 ((Below.refl _ _).alloc (Nat.le_refl _) o)
            obtain ⟨W5, HW5, b5, y5, hS5, r_ls5⟩ : ∃ X, Hid ((W4.alloc (.cells #[.string ⟨#[]⟩, .string ⟨#[120]⟩] 9)) = X) ∧ Below W4.heap.size W4 X ∧ W4.heap.size + 1 ≤ X.heap.size ∧ Hid (X.heap.size = W4.heap.size + 1) ∧ Hid (X.heap[W4.heap.size]? = some (.cells #[.string ⟨#[]⟩, .string ⟨#[120]⟩] 9 (0, 0))) := ⟨_, rfl, ((Below.refl _ _).alloc (Nat.le_refl _) _), by simp, by show _ = _; simp, (by show _ = _; exact alloc_nth1_0 W4 _)⟩
            have z5 : W4.heap.size ≤ W5.heap.size := b5.size
            have B5 : Hid (Apart g (g + 1) w W5) := B4.out.grow b5
            have r_a5 : Hid (W5.heap[w.heap.size]? = some (.cells #[.int .i64 k, .int .i64 f, .int .i64 t, .int .i64 h.n, .string h.r, .int .i64 n, .slice ao_p L_p cap_p] 28 (0, 0))) := rowKeep r_a4.out b5
            have r_res5 : Hid (W5.heap[w.heap.size + 1]? = some (.cells #[.int .i64 0, .int .i64 0, .int .i64 0, .int .i64 0, .string ⟨#[]⟩, .int .i64 0, .slice none 0 0] 28 (0, 0))) := rowKeep r_res4.out b5
            have o_p5 : Hid (Own W5 (W1.heap.size) (W2.heap.size) 9 (.slice ao_p L_p cap_p) (ss x)) := Own.later o_p4.out b5 (by omega)
            have c_a5_0 : W5.cell? ⟨w.heap.size, 0, none⟩ = some (.int .i64 k) := row_at r_a5.out 0
            have c_a5_1 : W5.cell? ⟨w.heap.size, 1, none⟩ = some (.int .i64 f) := row_at r_a5.out 1
            have c_a5_2 : W5.cell? ⟨w.heap.size, 2, none⟩ = some (.int .i64 t) := row_at r_a5.out 2
            have c_a5_3 : W5.cell? ⟨w.heap.size, 3, none⟩ = some (.int .i64 h.n) := row_at r_a5.out 3
            have c_a5_4 : W5.cell? ⟨w.heap.size, 4, none⟩ = some (.string h.r) := row_at r_a5.out 4
            have c_a5_5 : W5.cell? ⟨w.heap.size, 5, none⟩ = some (.int .i64 n) := row_at r_a5.out 5
            have c_a5_6 : W5.cell? ⟨w.heap.size, 6, none⟩ = some (.slice ao_p L_p cap_p) := row_at r_a5.out 6
            have c_res5_0 : W5.cell? ⟨w.heap.size + 1, 0, none⟩ = some (.int .i64 0) := row_at r_res5.out 0
            have c_res5_1 : W5.cell? ⟨w.heap.size + 1, 1, none⟩ = some (.int .i64 0) := row_at r_res5.out 1
            have c_res5_2 : W5.cell? ⟨w.heap.size + 1, 2, none⟩ = some (.int .i64 0) := row_at r_res5.out 2
            have c_res5_3 : W5.cell? ⟨w.heap.size + 1, 3, none⟩ = some (.int .i64 0) := row_at r_res5.out 3
            have c_res5_4 : W5.cell? ⟨w.heap.size + 1, 4, none⟩ = some (.string ⟨#[]⟩) := row_at r_res5.out 4
            have c_res5_5 : W5.cell? ⟨w.heap.size + 1, 5, none⟩ = some (.int .i64 0) := row_at r_res5.out 5
            have c_res5_6 : W5.cell? ⟨w.heap.size + 1, 6, none⟩ = some (.slice none 0 0) := row_at r_res5.out 6
            have c_ls5_0 : W5.cell? ⟨W4.heap.size, 0, none⟩ = some (.string ⟨#[]⟩) := row_at r_ls5.out 0
            have c_ls5_1 : W5.cell? ⟨W4.heap.size, 1, none⟩ = some (.string ⟨#[120]⟩) := row_at r_ls5.out 1
            clear r_a4 c_a4_0 c_a4_1 c_a4_2 c_a4_3 c_a4_4 c_a4_5 c_a4_6 r_res4 c_res4_0 c_res4_1 c_res4_2 c_res4_3 c_res4_4 c_res4_5 c_res4_6 o_p4
            have cu5 : Hid (Cur W5 (g) vb xs.length) := cu4.out.keep b5
            have bw5 : Hid (Below W0.heap.size W0 W5) := bw4.out.trans (b5.mono bw4.out.size)
            clear cu4 bw4
            go_wp2_with fail
            rw [HW5.out]
            clear a_a4_0 a_a4_1 a_a4_2 a_a4_3 a_a4_4 a_a4_5 a_a4_6 a_res4_0 a_res4_1 a_res4_2 a_res4_3 a_res4_4 a_res4_5 a_res4_6
            refine (str_any W0 W5 g _ xs (W4.heap.size) [⟨#[]⟩, ⟨#[120]⟩] r_ls5.out (by omega) (by simp) (by simp) HSW.out hby hx bw5.out hg cu5.out).mono ?_
            rintro e W6 ⟨s0, rfl, hsm, d6⟩
            have z6 : W5.heap.size ≤ W6.heap.size := d6.apart.size
            have B6 : Hid (Apart g (g + 1) w W6) := B5.out.trans d6.apart
            have cu6 : Hid (Cur W6 (g) vb xs.length) := d6.cur
            have bw6 : Hid (Below W0.heap.size W0 W6) := d6.below
            have r_a6 : Hid (W6.heap[w.heap.size]? = some (.cells #[.int .i64 k, .int .i64 f, .int .i64 t, .int .i64 h.n, .string h.r, .int .i64 n, .slice ao_p L_p cap_p] 28 (0, 0))) := drawn_row r_a5.out d6 (by omega)
            have r_res6 : Hid (W6.heap[w.heap.size + 1]? = some (.cells #[.int .i64 0, .int .i64 0, .int .i64 0, .int .i64 0, .string ⟨#[]⟩, .int .i64 0, .slice none 0 0] 28 (0, 0))) := drawn_row r_res5.out d6 (by omega)
            have r_ls6 : Hid (W6.heap[W4.heap.size]? = some (.cells #[.string ⟨#[]⟩, .string ⟨#[120]⟩] 9 (0, 0))) := drawn_row r_ls5.out d6 (by omega)
            have o_p6 : Hid (Own W6 (W1.heap.size) (W2.heap.size) 9 (.slice ao_p L_p cap_p) (ss x)) := Own.drawn o_p5.out d6 (by omega) (by omega)
            have c_a6_0 : W6.cell? ⟨w.heap.size, 0, none⟩ = some (.int .i64 k) := row_at r_a6.out 0
            have c_a6_1 : W6.cell? ⟨w.heap.size, 1, none⟩ = some (.int .i64 f) := row_at r_a6.out 1
            have c_a6_2 : W6.cell? ⟨w.heap.size, 2, none⟩ = some (.int .i64 t) := row_at r_a6.out 2
            have c_a6_3 : W6.cell? ⟨w.heap.size, 3, none⟩ = some (.int .i64 h.n) := row_at r_a6.out 3
            have c_a6_4 : W6.cell? ⟨w.heap.size, 4, none⟩ = some (.string h.r) := row_at r_a6.out 4
            have c_a6_5 : W6.cell? ⟨w.heap.size, 5, none⟩ = some (.int .i64 n) := row_at r_a6.out 5
            have c_a6_6 : W6.cell? ⟨w.heap.size, 6, none⟩ = some (.slice ao_p L_p cap_p) := row_at r_a6.out 6
            have c_res6_0 : W6.cell? ⟨w.heap.size + 1, 0, none⟩ = some (.int .i64 0) := row_at r_res6.out 0
            have c_res6_1 : W6.cell? ⟨w.heap.size + 1, 1, none⟩ = some (.int .i64 0) := row_at r_res6.out 1
            have c_res6_2 : W6.cell? ⟨w.heap.size + 1, 2, none⟩ = some (.int .i64 0) := row_at r_res6.out 2
            have c_res6_3 : W6.cell? ⟨w.heap.size + 1, 3, none⟩ = some (.int .i64 0) := row_at r_res6.out 3
            have c_res6_4 : W6.cell? ⟨w.heap.size + 1, 4, none⟩ = some (.string ⟨#[]⟩) := row_at r_res6.out 4
            have c_res6_5 : W6.cell? ⟨w.heap.size + 1, 5, none⟩ = some (.int .i64 0) := row_at r_res6.out 5
            have c_res6_6 : W6.cell? ⟨w.heap.size + 1, 6, none⟩ = some (.slice none 0 0) := row_at r_res6.out 6
            have c_ls6_0 : W6.cell? ⟨W4.heap.size, 0, none⟩ = some (.string ⟨#[]⟩) := row_at r_ls6.out 0
            have c_ls6_1 : W6.cell? ⟨W4.heap.size, 1, none⟩ = some (.string ⟨#[120]⟩) := row_at r_ls6.out 1
            clear r_a5 c_a5_0 c_a5_1 c_a5_2 c_a5_3 c_a5_4 c_a5_5 c_a5_6 r_res5 c_res5_0 c_res5_1 c_res5_2 c_res5_3 c_res5_4 c_res5_5 c_res5_6 r_ls5 c_ls5_0 c_ls5_1 o_p5
            clear cu5 bw5 d6
            clear r_ls6 c_ls6_0 c_ls6_1
            have hs0 : s0.size ≤ 32 := by
              simp at hsm
              rcases hsm with rfl | rfl
              · show (0 : Nat) ≤ 32; omega
              · show (1 : Nat) ≤ 32; omega
            go_wp2_with (refine wpl_oneG rfl 9 _ _ rfl (w.heap.size) 4 (.string s0) rfl rfl [.int .i64 k, .int .i64 f, .int .i64 t, .int .i64 h.n, .string h.r, .int .i64 n, .slice ao_p L_p cap_p] 28 r_a6.out (Nat.le_of_ble_eq_true rfl) (by kernel_rfl) rfl [.int .i64 k, .int .i64 f, .int .i64 t, .int .i64 h.n, .string s0, .int .i64 n, .slice ao_p L_p cap_p] rfl ?_)
            intro W7 r_a7 g7
            have cu7 : Hid (Cur W7 (g) vb xs.length) := cu6.out.gro g7 (fun h9 => by injection h9 with h9; omega)
            have bw7 : Hid (Below W0.heap.size W0 W7) := belowGro bw6.out g7 bw6.out.size (fun k9 h9 => by injection h9 with h9; omega)
            clear cu6 bw6
            have r_a7 : Hid (W7.heap[w.heap.size]? = some (.cells #[.int .i64 k, .int .i64 f, .int .i64 t, .int .i64 h.n, .string s0, .int .i64 n, .slice ao_p L_p cap_p] 28 (0, 0))) := r_a7
            have z7 : W6.heap.size ≤ W7.heap.size := g7.size
            have B7 : Hid (Apart g (g + 1) w W7) := Apart.groM B6.out g7 (fun k9 h9 => by injection h9 with h9; have := B6.out.size; omega)
            have r_res7 : Hid (W7.heap[w.heap.size + 1]? = some (.cells #[.int .i64 0, .int .i64 0, .int .i64 0, .int .i64 0, .string ⟨#[]⟩, .int .i64 0, .slice none 0 0] 28 (0, 0))) := rowGro r_res6.out g7 (fun h9 => by injection h9 with h9; omega)
            have o_p7 : Hid (Own W7 (W1.heap.size) (W2.heap.size) 9 (.slice ao_p L_p cap_p) (ss x)) := Own.gro o_p6.out g7 (fun k9 h9 e9 => Own.neRow o_p6.out r_a6.out (by decide) (h9.trans e9.symm))
            have c_a7_0 : W7.cell? ⟨w.heap.size, 0, none⟩ = some (.int .i64 k) := row_at r_a7.out 0
            have c_a7_1 : W7.cell? ⟨w.heap.size, 1, none⟩ = some (.int .i64 f) := row_at r_a7.out 1
            have c_a7_2 : W7.cell? ⟨w.heap.size, 2, none⟩ = some (.int .i64 t) := row_at r_a7.out 2
            have c_a7_3 : W7.cell? ⟨w.heap.size, 3, none⟩ = some (.int .i64 h.n) := row_at r_a7.out 3
            have c_a7_4 : W7.cell? ⟨w.heap.size, 4, none⟩ = some (.string s0) := row_at r_a7.out 4
            have c_a7_5 : W7.cell? ⟨w.heap.size, 5, none⟩ = some (.int .i64 n) := row_at r_a7.out 5
            have c_a7_6 : W7.cell? ⟨w.heap.size, 6, none⟩ = some (.slice ao_p L_p cap_p) := row_at r_a7.out 6
            have c_res7_0 : W7.cell? ⟨w.heap.size + 1, 0, none⟩ = some (.int .i64 0) := row_at r_res7.out 0
            have c_res7_1 : W7.cell? ⟨w.heap.size + 1, 1, none⟩ = some (.int .i64 0) := row_at r_res7.out 1
            have c_res7_2 : W7.cell? ⟨w.heap.size + 1, 2, none⟩ = some (.int .i64 0) := row_at r_res7.out 2
            have c_res7_3 : W7.cell? ⟨w.heap.size + 1, 3, none⟩ = some (.int .i64 0) := row_at r_res7.out 3
            have c_res7_4 : W7.cell? ⟨w.heap.size + 1, 4, none⟩ = some (.string ⟨#[]⟩) := row_at r_res7.out 4
            have c_res7_5 : W7.cell? ⟨w.heap.size + 1, 5, none⟩ = some (.int .i64 0) := row_at r_res7.out 5
            have c_res7_6 : W7.cell? ⟨w.heap.size + 1, 6, none⟩ = some (.slice none 0 0) := row_at r_res7.out 6
            clear r_res6 c_res6_0 c_res6_1 c_res6_2 c_res6_3 c_res6_4 c_res6_5 c_res6_6 o_p6
            clear r_a6 c_a6_0 c_a6_1 c_a6_2 c_a6_3 c_a6_4 c_a6_5 c_a6_6
            clear g7
            go_wp2_with (first | (refine wpList_load_row rfl 28 _ rfl (w.heap.size) rfl 28 (mc ⟨k, f, t, ⟨h.n, s0⟩, n, x⟩ (.slice ao_p L_p cap_p)) (0, 0) _ r_a7.out Try.underlying28 rfl (sizeM _ _) ?_) | (refine wpl_partG rfl 28 _ _ rfl (w.heap.size + 1) 0 (mc ⟨k, f, t, ⟨h.n, s0⟩, n, x⟩ (.slice ao_p L_p cap_p)) rfl rfl [.int .i64 0, .int .i64 0, .int .i64 0, .int .i64 0, .string ⟨#[]⟩, .int .i64 0, .slice none 0 0] 28 r_res7.out (Nat.le_of_ble_eq_true rfl) (sizeM _ _) (oneM _ rfl) [.int .i64 k, .int .i64 f, .int .i64 t, .int .i64 h.n, .string s0, .int .i64 n, .slice ao_p L_p cap_p] rfl ?_))
            intro W8 r_res8 g8
            have cu8 : Hid (Cur W8 (g) vb xs.length) := cu7.out.gro g8 (fun h9 => by injection h9 with h9; omega)
            have bw8 : Hid (Below W0.heap.size W0 W8) := belowGro bw7.out g8 bw7.out.size (fun k9 h9 => by injection h9 with h9; omega)
            clear cu7 bw7
            have r_res8 : Hid (W8.heap[w.heap.size + 1]? = some (.cells #[.int .i64 k, .int .i64 f, .int .i64 t, .int .i64 h.n, .string s0, .int .i64 n, .slice ao_p L_p cap_p] 28 (0, 0))) := r_res8
            have z8 : W7.heap.size ≤ W8.heap.size := g8.size
            have B8 : Hid (Apart g (g + 1) w W8) := Apart.groM B7.out g8 (fun k9 h9 => by injection h9 with h9; have := B7.out.size; omega)
            have r_a8 : Hid (W8.heap[w.heap.size]? = some (.cells #[.int .i64 k, .int .i64 f, .int .i64 t, .int .i64 h.n, .string s0, .int .i64 n, .slice ao_p L_p cap_p] 28 (0, 0))) := rowGro r_a7.out g8 (fun h9 => by injection h9 with h9; omega)
            have o_p8 : Hid (Own W8 (W1.heap.size) (W2.heap.size) 9 (.slice ao_p L_p cap_p) (ss x)) := Own.gro o_p7.out g8 (fun k9 h9 e9 => Own.neRow o_p7.out r_res7.out (by decide) (h9.trans e9.symm))
            have c_a8_0 : W8.cell? ⟨w.heap.size, 0, none⟩ = some (.int .i64 k) := row_at r_a8.out 0
            have c_a8_1 : W8.cell? ⟨w.heap.size, 1, none⟩ = some (.int .i64 f) := row_at r_a8.out 1
            have c_a8_2 : W8.cell? ⟨w.heap.size, 2, none⟩ = some (.int .i64 t) := row_at r_a8.out 2
            have c_a8_3 : W8.cell? ⟨w.heap.size, 3, none⟩ = some (.int .i64 h.n) := row_at r_a8.out 3
            have c_a8_4 : W8.cell? ⟨w.heap.size, 4, none⟩ = some (.string s0) := row_at r_a8.out 4
            have c_a8_5 : W8.cell? ⟨w.heap.size, 5, none⟩ = some (.int .i64 n) := row_at r_a8.out 5
            have c_a8_6 : W8.cell? ⟨w.heap.size, 6, none⟩ = some (.slice ao_p L_p cap_p) := row_at r_a8.out 6
            have c_res8_0 : W8.cell? ⟨w.heap.size + 1, 0, none⟩ = some (.int .i64 k) := row_at r_res8.out 0
            have c_res8_1 : W8.cell? ⟨w.heap.size + 1, 1, none⟩ = some (.int .i64 f) := row_at r_res8.out 1
            have c_res8_2 : W8.cell? ⟨w.heap.size + 1, 2, none⟩ = some (.int .i64 t) := row_at r_res8.out 2
            have c_res8_3 : W8.cell? ⟨w.heap.size + 1, 3, none⟩ = some (.int .i64 h.n) := row_at r_res8.out 3
            have c_res8_4 : W8.cell? ⟨w.heap.size + 1, 4, none⟩ = some (.string s0) := row_at r_res8.out 4
            have c_res8_5 : W8.cell? ⟨w.heap.size + 1, 5, none⟩ = some (.int .i64 n) := row_at r_res8.out 5
            have c_res8_6 : W8.cell? ⟨w.heap.size + 1, 6, none⟩ = some (.slice ao_p L_p cap_p) := row_at r_res8.out 6
            clear r_a7 c_a7_0 c_a7_1 c_a7_2 c_a7_3 c_a7_4 c_a7_5 c_a7_6 o_p7
            clear r_res7 c_res7_0 c_res7_1 c_res7_2 c_res7_3 c_res7_4 c_res7_5 c_res7_6
            go_wp2
            exact bodyPost_ret (v := .agg (mc ⟨k, f, t, ⟨h.n, s0⟩, n, x⟩ (.slice ao_p L_p cap_p))) (results_cell_row rfl _ _ (w.heap.size + 1) 28 _ (0, 0) _ rfl r_res8.out Try.underlying28 rfl (sizeM _ _)) rfl ⟨⟨k, f, t, ⟨h.n, s0⟩, n, x⟩, .slice ao_p L_p cap_p, rfl, ⟨by simp only; omega, HSZ.out, hs0⟩, Own.mono o_p8.out (by omega) (by omega), ⟨cu8.out, B8.out, bw8.out⟩⟩
          · have y4b : (y == 4) = false := by rw [beq_eq_false_iff_ne]; exact y4
            by_cases y5 : y = 5
            · subst y5
              have a_a4_0 : ∀ o, (W4.alloc o).cell? ⟨w.heap.size, 0, none⟩ = some (.int .i64 k) := fun o => keepR c_a4_0 ((Below.refl _ _).alloc (Nat.le_refl _) o)
              have a_a4_1 : ∀ o, (W4.alloc o).cell? ⟨w.heap.size, 1, none⟩ = some (.int .i64 f) := fun o => keepR c_a4_1 ((Below.refl _ _).alloc (Nat.le_refl _) o)
              have a_a4_2 : ∀ o, (W4.alloc o).cell? ⟨w.heap.size, 2, none⟩ = some (.int .i64 t) := fun o => keepR c_a4_2 ((Below.refl _ _).alloc (Nat.le_refl _) o)
              have a_a4_3 : ∀ o, (W4.alloc o).cell? ⟨w.heap.size, 3, none⟩ = some (.int .i64 h.n) := fun o => keepR c_a4_3 ((Below.refl _ _).alloc (Nat.le_refl _) o)
              have a_a4_4 : ∀ o, (W4.alloc o).cell? ⟨w.heap.size, 4, none⟩ = some (.string h.r) := fun o => keepR c_a4_4 ((Below.refl _ _).alloc (Nat.le_refl _) o)
              have a_a4_5 : ∀ o, (W4.alloc o).cell? ⟨w.heap.size, 5, none⟩ = some (.int .i64 n) := fun o => keepR c_a4_5 ((Below.refl _ _).alloc (Nat.le_refl _) o)
              have a_a4_6 : ∀ o, (W4.alloc o).cell? ⟨w.heap.size, 6, none⟩ = some (.slice ao_p L_p cap_p) := fun o => keepR c_a4_6 ((Below.refl _ _).alloc (Nat.le_refl _) o)
              have a_res4_0 : ∀ o, (W4.alloc o).cell? ⟨w.heap.size + 1, 0, none⟩ = some (.int .i64 0) := fun o => keepR c_res4_0 ((Below.refl _ _).alloc (Nat.le_refl _) o)
              have a_res4_1 : ∀ o, (W4.alloc o).cell? ⟨w.heap.size + 1, 1, none⟩ = some (.int .i64 0) := fun o => keepR c_res4_1 ((Below.refl _ _).alloc (Nat.le_refl _) o)
              have a_res4_2 : ∀ o, (W4.alloc o).cell? ⟨w.heap.size + 1, 2, none⟩ = some (.int .i64 0) := fun o => keepR c_res4_2 ((Below.refl _ _).alloc (Nat.le_refl _) o)
              have a_res4_3 : ∀ o, (W4.alloc o).cell? ⟨w.heap.size + 1, 3, none⟩ = some (.int .i64 0) := fun o => keepR c_res4_3 ((Below.refl _ _).alloc (Nat.le_refl _) o)
              have a_res4_4 : ∀ o, (W4.alloc o).cell? ⟨w.heap.size + 1, 4, none⟩ = some (.string ⟨#[]⟩) := fun o => keepR c_res4_4 ((Below.refl _ _).alloc (Nat.le_refl _) o)
              have a_res4_5 : ∀ o, (W4.alloc o).cell? ⟨w.heap.size + 1, 5, none⟩ = some (.int .i64 0) := fun o => keepR c_res4_5 ((Below.refl _ _).alloc (Nat.le_refl _) o)
              have a_res4_6 : ∀ o, (W4.alloc o).cell? ⟨w.heap.size + 1, 6, none⟩ = some (.slice none 0 0) := fun o => keepR c_res4_6 ((Below.refl _ _).alloc (Nat.le_refl _) o)
              obtain ⟨W5, HW5, b5, y5, hS5, r_li5⟩ : ∃ X, Hid ((W4.alloc (.cells #[.int .i64 (-1), .int .i64 201, .int .i64 1] 3)) = X) ∧ Below W4.heap.size W4 X ∧ W4.heap.size + 1 ≤ X.heap.size ∧ Hid (X.heap.size = W4.heap.size + 1) ∧ Hid (X.heap[W4.heap.size]? = some (.cells #[.int .i64 (-1), .int .i64 201, .int .i64 1] 3 (0, 0))) := ⟨_, rfl, ((Below.refl _ _).alloc (Nat.le_refl _) _), by simp, by show _ = _; simp, (by show _ = _; exact alloc_nth1_0 W4 _)⟩
              have z5 : W4.heap.size ≤ W5.heap.size := b5.size
              have B5 : Hid (Apart g (g + 1) w W5) := B4.out.grow b5
              have r_a5 : Hid (W5.heap[w.heap.size]? = some (.cells #[.int .i64 k, .int .i64 f, .int .i64 t, .int .i64 h.n, .string h.r, .int .i64 n, .slice ao_p L_p cap_p] 28 (0, 0))) := rowKeep r_a4.out b5
              have r_res5 : Hid (W5.heap[w.heap.size + 1]? = some (.cells #[.int .i64 0, .int .i64 0, .int .i64 0, .int .i64 0, .string ⟨#[]⟩, .int .i64 0, .slice none 0 0] 28 (0, 0))) := rowKeep r_res4.out b5
              have o_p5 : Hid (Own W5 (W1.heap.size) (W2.heap.size) 9 (.slice ao_p L_p cap_p) (ss x)) := Own.later o_p4.out b5 (by omega)
              have c_a5_0 : W5.cell? ⟨w.heap.size, 0, none⟩ = some (.int .i64 k) := row_at r_a5.out 0
              have c_a5_1 : W5.cell? ⟨w.heap.size, 1, none⟩ = some (.int .i64 f) := row_at r_a5.out 1
              have c_a5_2 : W5.cell? ⟨w.heap.size, 2, none⟩ = some (.int .i64 t) := row_at r_a5.out 2
              have c_a5_3 : W5.cell? ⟨w.heap.size, 3, none⟩ = some (.int .i64 h.n) := row_at r_a5.out 3
              have c_a5_4 : W5.cell? ⟨w.heap.size, 4, none⟩ = some (.string h.r) := row_at r_a5.out 4
              have c_a5_5 : W5.cell? ⟨w.heap.size, 5, none⟩ = some (.int .i64 n) := row_at r_a5.out 5
              have c_a5_6 : W5.cell? ⟨w.heap.size, 6, none⟩ = some (.slice ao_p L_p cap_p) := row_at r_a5.out 6
              have c_res5_0 : W5.cell? ⟨w.heap.size + 1, 0, none⟩ = some (.int .i64 0) := row_at r_res5.out 0
              have c_res5_1 : W5.cell? ⟨w.heap.size + 1, 1, none⟩ = some (.int .i64 0) := row_at r_res5.out 1
              have c_res5_2 : W5.cell? ⟨w.heap.size + 1, 2, none⟩ = some (.int .i64 0) := row_at r_res5.out 2
              have c_res5_3 : W5.cell? ⟨w.heap.size + 1, 3, none⟩ = some (.int .i64 0) := row_at r_res5.out 3
              have c_res5_4 : W5.cell? ⟨w.heap.size + 1, 4, none⟩ = some (.string ⟨#[]⟩) := row_at r_res5.out 4
              have c_res5_5 : W5.cell? ⟨w.heap.size + 1, 5, none⟩ = some (.int .i64 0) := row_at r_res5.out 5
              have c_res5_6 : W5.cell? ⟨w.heap.size + 1, 6, none⟩ = some (.slice none 0 0) := row_at r_res5.out 6
              have c_li5_0 : W5.cell? ⟨W4.heap.size, 0, none⟩ = some (.int .i64 (-1)) := row_at r_li5.out 0
              have c_li5_1 : W5.cell? ⟨W4.heap.size, 1, none⟩ = some (.int .i64 201) := row_at r_li5.out 1
              have c_li5_2 : W5.cell? ⟨W4.heap.size, 2, none⟩ = some (.int .i64 1) := row_at r_li5.out 2
              clear r_a4 c_a4_0 c_a4_1 c_a4_2 c_a4_3 c_a4_4 c_a4_5 c_a4_6 r_res4 c_res4_0 c_res4_1 c_res4_2 c_res4_3 c_res4_4 c_res4_5 c_res4_6 o_p4
              have cu5 : Hid (Cur W5 (g) vb xs.length) := cu4.out.keep b5
              have bw5 : Hid (Below W0.heap.size W0 W5) := bw4.out.trans (b5.mono bw4.out.size)
              clear cu4 bw4
              go_wp2_with fail
              rw [HW5.out]
              clear a_a4_0 a_a4_1 a_a4_2 a_a4_3 a_a4_4 a_a4_5 a_a4_6 a_res4_0 a_res4_1 a_res4_2 a_res4_3 a_res4_4 a_res4_5 a_res4_6
              refine (int_any W0 W5 g _ xs (W4.heap.size) [-1, 201, 1] r_li5.out (by omega) (by simp) (by simp) HSW.out hby hx bw5.out hg cu5.out).mono ?_
              rintro e W6 ⟨i, rfl, him, d6⟩
              have z6 : W5.heap.size ≤ W6.heap.size := d6.apart.size
              have B6 : Hid (Apart g (g + 1) w W6) := B5.out.trans d6.apart
              have cu6 : Hid (Cur W6 (g) vb xs.length) := d6.cur
              have bw6 : Hid (Below W0.heap.size W0 W6) := d6.below
              have r_a6 : Hid (W6.heap[w.heap.size]? = some (.cells #[.int .i64 k, .int .i64 f, .int .i64 t, .int .i64 h.n, .string h.r, .int .i64 n, .slice ao_p L_p cap_p] 28 (0, 0))) := drawn_row r_a5.out d6 (by omega)
              have r_res6 : Hid (W6.heap[w.heap.size + 1]? = some (.cells #[.int .i64 0, .int .i64 0, .int .i64 0, .int .i64 0, .string ⟨#[]⟩, .int .i64 0, .slice none 0 0] 28 (0, 0))) := drawn_row r_res5.out d6 (by omega)
              have r_li6 : Hid (W6.heap[W4.heap.size]? = some (.cells #[.int .i64 (-1), .int .i64 201, .int .i64 1] 3 (0, 0))) := drawn_row r_li5.out d6 (by omega)
              have o_p6 : Hid (Own W6 (W1.heap.size) (W2.heap.size) 9 (.slice ao_p L_p cap_p) (ss x)) := Own.drawn o_p5.out d6 (by omega) (by omega)
              have c_a6_0 : W6.cell? ⟨w.heap.size, 0, none⟩ = some (.int .i64 k) := row_at r_a6.out 0
              have c_a6_1 : W6.cell? ⟨w.heap.size, 1, none⟩ = some (.int .i64 f) := row_at r_a6.out 1
              have c_a6_2 : W6.cell? ⟨w.heap.size, 2, none⟩ = some (.int .i64 t) := row_at r_a6.out 2
              have c_a6_3 : W6.cell? ⟨w.heap.size, 3, none⟩ = some (.int .i64 h.n) := row_at r_a6.out 3
              have c_a6_4 : W6.cell? ⟨w.heap.size, 4, none⟩ = some (.string h.r) := row_at r_a6.out 4
              have c_a6_5 : W6.cell? ⟨w.heap.size, 5, none⟩ = some (.int .i64 n) := row_at r_a6.out 5
              have c_a6_6 : W6.cell? ⟨w.heap.size, 6, none⟩ = some (.slice ao_p L_p cap_p) := row_at r_a6.out 6
              have c_res6_0 : W6.cell? ⟨w.heap.size + 1, 0, none⟩ = some (.int .i64 0) := row_at r_res6.out 0
              have c_res6_1 : W6.cell? ⟨w.heap.size + 1, 1, none⟩ = some (.int .i64 0) := row_at r_res6.out 1
              have c_res6_2 : W6.cell? ⟨w.heap.size + 1, 2, none⟩ = some (.int .i64 0) := row_at r_res6.out 2
              have c_res6_3 : W6.cell? ⟨w.heap.size + 1, 3, none⟩ = some (.int .i64 0) := row_at r_res6.out 3
              have c_res6_4 : W6.cell? ⟨w.heap.size + 1, 4, none⟩ = some (.string ⟨#[]⟩) := row_at r_res6.out 4
              have c_res6_5 : W6.cell? ⟨w.heap.size + 1, 5, none⟩ = some (.int .i64 0) := row_at r_res6.out 5
              have c_res6_6 : W6.cell? ⟨w.heap.size + 1, 6, none⟩ = some (.slice none 0 0) := row_at r_res6.out 6
              have c_li6_0 : W6.cell? ⟨W4.heap.size, 0, none⟩ = some (.int .i64 (-1)) := row_at r_li6.out 0
              have c_li6_1 : W6.cell? ⟨W4.heap.size, 1, none⟩ = some (.int .i64 201) := row_at r_li6.out 1
              have c_li6_2 : W6.cell? ⟨W4.heap.size, 2, none⟩ = some (.int .i64 1) := row_at r_li6.out 2
              clear r_a5 c_a5_0 c_a5_1 c_a5_2 c_a5_3 c_a5_4 c_a5_5 c_a5_6 r_res5 c_res5_0 c_res5_1 c_res5_2 c_res5_3 c_res5_4 c_res5_5 c_res5_6 r_li5 c_li5_0 c_li5_1 c_li5_2 o_p5
              clear cu5 bw5 d6
              clear r_li6 c_li6_0 c_li6_1 c_li6_2
              go_wp2_with (refine wpl_oneG rfl 3 _ _ rfl (w.heap.size) 3 (.int .i64 i) rfl rfl [.int .i64 k, .int .i64 f, .int .i64 t, .int .i64 h.n, .string h.r, .int .i64 n, .slice ao_p L_p cap_p] 28 r_a6.out (Nat.le_of_ble_eq_true rfl) (by kernel_rfl) rfl [.int .i64 k, .int .i64 f, .int .i64 t, .int .i64 i, .string h.r, .int .i64 n, .slice ao_p L_p cap_p] rfl ?_)
              intro W7 r_a7 g7
              have cu7 : Hid (Cur W7 (g) vb xs.length) := cu6.out.gro g7 (fun h9 => by injection h9 with h9; omega)
              have bw7 : Hid (Below W0.heap.size W0 W7) := belowGro bw6.out g7 bw6.out.size (fun k9 h9 => by injection h9 with h9; omega)
              clear cu6 bw6
              have r_a7 : Hid (W7.heap[w.heap.size]? = some (.cells #[.int .i64 k, .int .i64 f, .int .i64 t, .int .i64 i, .string h.r, .int .i64 n, .slice ao_p L_p cap_p] 28 (0, 0))) := r_a7
              have z7 : W6.heap.size ≤ W7.heap.size := g7.size
              have B7 : Hid (Apart g (g + 1) w W7) := Apart.groM B6.out g7 (fun k9 h9 => by injection h9 with h9; have := B6.out.size; omega)
              have r_res7 : Hid (W7.heap[w.heap.size + 1]? = some (.cells #[.int .i64 0, .int .i64 0, .int .i64 0, .int .i64 0, .string ⟨#[]⟩, .int .i64 0, .slice none 0 0] 28 (0, 0))) := rowGro r_res6.out g7 (fun h9 => by injection h9 with h9; omega)
              have o_p7 : Hid (Own W7 (W1.heap.size) (W2.heap.size) 9 (.slice ao_p L_p cap_p) (ss x)) := Own.gro o_p6.out g7 (fun k9 h9 e9 => Own.neRow o_p6.out r_a6.out (by decide) (h9.trans e9.symm))
              have c_a7_0 : W7.cell? ⟨w.heap.size, 0, none⟩ = some (.int .i64 k) := row_at r_a7.out 0
              have c_a7_1 : W7.cell? ⟨w.heap.size, 1, none⟩ = some (.int .i64 f) := row_at r_a7.out 1
              have c_a7_2 : W7.cell? ⟨w.heap.size, 2, none⟩ = some (.int .i64 t) := row_at r_a7.out 2
              have c_a7_3 : W7.cell? ⟨w.heap.size, 3, none⟩ = some (.int .i64 i) := row_at r_a7.out 3
              have c_a7_4 : W7.cell? ⟨w.heap.size, 4, none⟩ = some (.string h.r) := row_at r_a7.out 4
              have c_a7_5 : W7.cell? ⟨w.heap.size, 5, none⟩ = some (.int .i64 n) := row_at r_a7.out 5
              have c_a7_6 : W7.cell? ⟨w.heap.size, 6, none⟩ = some (.slice ao_p L_p cap_p) := row_at r_a7.out 6
              have c_res7_0 : W7.cell? ⟨w.heap.size + 1, 0, none⟩ = some (.int .i64 0) := row_at r_res7.out 0
              have c_res7_1 : W7.cell? ⟨w.heap.size + 1, 1, none⟩ = some (.int .i64 0) := row_at r_res7.out 1
              have c_res7_2 : W7.cell? ⟨w.heap.size + 1, 2, none⟩ = some (.int .i64 0) := row_at r_res7.out 2
              have c_res7_3 : W7.cell? ⟨w.heap.size + 1, 3, none⟩ = some (.int .i64 0) := row_at r_res7.out 3
              have c_res7_4 : W7.cell? ⟨w.heap.size + 1, 4, none⟩ = some (.string ⟨#[]⟩) := row_at r_res7.out 4
              have c_res7_5 : W7.cell? ⟨w.heap.size + 1, 5, none⟩ = some (.int .i64 0) := row_at r_res7.out 5
              have c_res7_6 : W7.cell? ⟨w.heap.size + 1, 6, none⟩ = some (.slice none 0 0) := row_at r_res7.out 6
              clear r_res6 c_res6_0 c_res6_1 c_res6_2 c_res6_3 c_res6_4 c_res6_5 c_res6_6 o_p6
              clear r_a6 c_a6_0 c_a6_1 c_a6_2 c_a6_3 c_a6_4 c_a6_5 c_a6_6
              clear g7
              go_wp2_with (first | (refine wpList_load_row rfl 28 _ rfl (w.heap.size) rfl 28 (mc ⟨k, f, t, ⟨i, h.r⟩, n, x⟩ (.slice ao_p L_p cap_p)) (0, 0) _ r_a7.out Try.underlying28 rfl (sizeM _ _) ?_) | (refine wpl_partG rfl 28 _ _ rfl (w.heap.size + 1) 0 (mc ⟨k, f, t, ⟨i, h.r⟩, n, x⟩ (.slice ao_p L_p cap_p)) rfl rfl [.int .i64 0, .int .i64 0, .int .i64 0, .int .i64 0, .string ⟨#[]⟩, .int .i64 0, .slice none 0 0] 28 r_res7.out (Nat.le_of_ble_eq_true rfl) (sizeM _ _) (oneM _ rfl) [.int .i64 k, .int .i64 f, .int .i64 t, .int .i64 i, .string h.r, .int .i64 n, .slice ao_p L_p cap_p] rfl ?_))
              intro W8 r_res8 g8
              have cu8 : Hid (Cur W8 (g) vb xs.length) := cu7.out.gro g8 (fun h9 => by injection h9 with h9; omega)
              have bw8 : Hid (Below W0.heap.size W0 W8) := belowGro bw7.out g8 bw7.out.size (fun k9 h9 => by injection h9 with h9; omega)
              clear cu7 bw7
              have r_res8 : Hid (W8.heap[w.heap.size + 1]? = some (.cells #[.int .i64 k, .int .i64 f, .int .i64 t, .int .i64 i, .string h.r, .int .i64 n, .slice ao_p L_p cap_p] 28 (0, 0))) := r_res8
              have z8 : W7.heap.size ≤ W8.heap.size := g8.size
              have B8 : Hid (Apart g (g + 1) w W8) := Apart.groM B7.out g8 (fun k9 h9 => by injection h9 with h9; have := B7.out.size; omega)
              have r_a8 : Hid (W8.heap[w.heap.size]? = some (.cells #[.int .i64 k, .int .i64 f, .int .i64 t, .int .i64 i, .string h.r, .int .i64 n, .slice ao_p L_p cap_p] 28 (0, 0))) := rowGro r_a7.out g8 (fun h9 => by injection h9 with h9; omega)
              have o_p8 : Hid (Own W8 (W1.heap.size) (W2.heap.size) 9 (.slice ao_p L_p cap_p) (ss x)) := Own.gro o_p7.out g8 (fun k9 h9 e9 => Own.neRow o_p7.out r_res7.out (by decide) (h9.trans e9.symm))
              have c_a8_0 : W8.cell? ⟨w.heap.size, 0, none⟩ = some (.int .i64 k) := row_at r_a8.out 0
              have c_a8_1 : W8.cell? ⟨w.heap.size, 1, none⟩ = some (.int .i64 f) := row_at r_a8.out 1
              have c_a8_2 : W8.cell? ⟨w.heap.size, 2, none⟩ = some (.int .i64 t) := row_at r_a8.out 2
              have c_a8_3 : W8.cell? ⟨w.heap.size, 3, none⟩ = some (.int .i64 i) := row_at r_a8.out 3
              have c_a8_4 : W8.cell? ⟨w.heap.size, 4, none⟩ = some (.string h.r) := row_at r_a8.out 4
              have c_a8_5 : W8.cell? ⟨w.heap.size, 5, none⟩ = some (.int .i64 n) := row_at r_a8.out 5
              have c_a8_6 : W8.cell? ⟨w.heap.size, 6, none⟩ = some (.slice ao_p L_p cap_p) := row_at r_a8.out 6
              have c_res8_0 : W8.cell? ⟨w.heap.size + 1, 0, none⟩ = some (.int .i64 k) := row_at r_res8.out 0
              have c_res8_1 : W8.cell? ⟨w.heap.size + 1, 1, none⟩ = some (.int .i64 f) := row_at r_res8.out 1
              have c_res8_2 : W8.cell? ⟨w.heap.size + 1, 2, none⟩ = some (.int .i64 t) := row_at r_res8.out 2
              have c_res8_3 : W8.cell? ⟨w.heap.size + 1, 3, none⟩ = some (.int .i64 i) := row_at r_res8.out 3
              have c_res8_4 : W8.cell? ⟨w.heap.size + 1, 4, none⟩ = some (.string h.r) := row_at r_res8.out 4
              have c_res8_5 : W8.cell? ⟨w.heap.size + 1, 5, none⟩ = some (.int .i64 n) := row_at r_res8.out 5
              have c_res8_6 : W8.cell? ⟨w.heap.size + 1, 6, none⟩ = some (.slice ao_p L_p cap_p) := row_at r_res8.out 6
              clear r_a7 c_a7_0 c_a7_1 c_a7_2 c_a7_3 c_a7_4 c_a7_5 c_a7_6 o_p7
              clear r_res7 c_res7_0 c_res7_1 c_res7_2 c_res7_3 c_res7_4 c_res7_5 c_res7_6
              go_wp2
              exact bodyPost_ret (v := .agg (mc ⟨k, f, t, ⟨i, h.r⟩, n, x⟩ (.slice ao_p L_p cap_p))) (results_cell_row rfl _ _ (w.heap.size + 1) 28 _ (0, 0) _ rfl r_res8.out Try.underlying28 rfl (sizeM _ _)) rfl ⟨⟨k, f, t, ⟨i, h.r⟩, n, x⟩, .slice ao_p L_p cap_p, rfl, ⟨by simp only; omega, HSZ.out, hhd⟩, Own.mono o_p8.out (by omega) (by omega), ⟨cu8.out, B8.out, bw8.out⟩⟩
            · have y5b : (y == 5) = false := by rw [beq_eq_false_iff_ne]; exact y5
              go_wp2_with (first | (refine wpList_load_row rfl 28 _ rfl (w.heap.size) rfl 28 (mc ⟨k, f, t, h, n, x⟩ (.slice ao_p L_p cap_p)) (0, 0) _ r_a4.out Try.underlying28 rfl (sizeM _ _) ?_) | (refine wpl_partG rfl 28 _ _ rfl (w.heap.size + 1) 0 (mc ⟨k, f, t, h, n, x⟩ (.slice ao_p L_p cap_p)) rfl rfl [.int .i64 0, .int .i64 0, .int .i64 0, .int .i64 0, .string ⟨#[]⟩, .int .i64 0, .slice none 0 0] 28 r_res4.out (Nat.le_of_ble_eq_true rfl) (sizeM _ _) (oneM _ rfl) [.int .i64 k, .int .i64 f, .int .i64 t, .int .i64 h.n, .string h.r, .int .i64 n, .slice ao_p L_p cap_p] rfl ?_))
              intro W5 r_res5 g5
              have cu5 : Hid (Cur W5 (g) vb xs.length) := cu4.out.gro g5 (fun h9 => by injection h9 with h9; omega)
              have bw5 : Hid (Below W0.heap.size W0 W5) := belowGro bw4.out g5 bw4.out.size (fun k9 h9 => by injection h9 with h9; omega)
              clear cu4 bw4
              have r_res5 : Hid (W5.heap[w.heap.size + 1]? = some (.cells #[.int .i64 k, .int .i64 f, .int .i64 t, .int .i64 h.n, .string h.r, .int .i64 n, .slice ao_p L_p cap_p] 28 (0, 0))) := r_res5
              have z5 : W4.heap.size ≤ W5.heap.size := g5.size
              have B5 : Hid (Apart g (g + 1) w W5) := Apart.groM B4.out g5 (fun k9 h9 => by injection h9 with h9; have := B4.out.size; omega)
              have r_a5 : Hid (W5.heap[w.heap.size]? = some (.cells #[.int .i64 k, .int .i64 f, .int .i64 t, .int .i64 h.n, .string h.r, .int .i64 n, .slice ao_p L_p cap_p] 28 (0, 0))) := rowGro r_a4.out g5 (fun h9 => by injection h9 with h9; omega)
              have o_p5 : Hid (Own W5 (W1.heap.size) (W2.heap.size) 9 (.slice ao_p L_p cap_p) (ss x)) := Own.gro o_p4.out g5 (fun k9 h9 e9 => Own.neRow o_p4.out r_res4.out (by decide) (h9.trans e9.symm))
              have c_a5_0 : W5.cell? ⟨w.heap.size, 0, none⟩ = some (.int .i64 k) := row_at r_a5.out 0
              have c_a5_1 : W5.cell? ⟨w.heap.size, 1, none⟩ = some (.int .i64 f) := row_at r_a5.out 1
              have c_a5_2 : W5.cell? ⟨w.heap.size, 2, none⟩ = some (.int .i64 t) := row_at r_a5.out 2
              have c_a5_3 : W5.cell? ⟨w.heap.size, 3, none⟩ = some (.int .i64 h.n) := row_at r_a5.out 3
              have c_a5_4 : W5.cell? ⟨w.heap.size, 4, none⟩ = some (.string h.r) := row_at r_a5.out 4
              have c_a5_5 : W5.cell? ⟨w.heap.size, 5, none⟩ = some (.int .i64 n) := row_at r_a5.out 5
              have c_a5_6 : W5.cell? ⟨w.heap.size, 6, none⟩ = some (.slice ao_p L_p cap_p) := row_at r_a5.out 6
              have c_res5_0 : W5.cell? ⟨w.heap.size + 1, 0, none⟩ = some (.int .i64 k) := row_at r_res5.out 0
              have c_res5_1 : W5.cell? ⟨w.heap.size + 1, 1, none⟩ = some (.int .i64 f) := row_at r_res5.out 1
              have c_res5_2 : W5.cell? ⟨w.heap.size + 1, 2, none⟩ = some (.int .i64 t) := row_at r_res5.out 2
              have c_res5_3 : W5.cell? ⟨w.heap.size + 1, 3, none⟩ = some (.int .i64 h.n) := row_at r_res5.out 3
              have c_res5_4 : W5.cell? ⟨w.heap.size + 1, 4, none⟩ = some (.string h.r) := row_at r_res5.out 4
              have c_res5_5 : W5.cell? ⟨w.heap.size + 1, 5, none⟩ = some (.int .i64 n) := row_at r_res5.out 5
              have c_res5_6 : W5.cell? ⟨w.heap.size + 1, 6, none⟩ = some (.slice ao_p L_p cap_p) := row_at r_res5.out 6
              clear r_a4 c_a4_0 c_a4_1 c_a4_2 c_a4_3 c_a4_4 c_a4_5 c_a4_6 o_p4
              clear r_res4 c_res4_0 c_res4_1 c_res4_2 c_res4_3 c_res4_4 c_res4_5 c_res4_6
              go_wp2
              exact bodyPost_ret (v := .agg (mc ⟨k, f, t, h, n, x⟩ (.slice ao_p L_p cap_p))) (results_cell_row rfl _ _ (w.heap.size + 1) 28 _ (0, 0) _ rfl r_res5.out Try.underlying28 rfl (sizeM _ _)) rfl ⟨⟨k, f, t, h, n, x⟩, .slice ao_p L_p cap_p, rfl, ⟨by simp only; omega, HSZ.out, hhd⟩, Own.mono o_p5.out (by omega) (by omega), ⟨cu5.out, B5.out, bw5.out⟩⟩

set_option maxRecDepth 1000000 in
set_option maxHeartbeats 16000000 in
theorem any13 (W0 w : World) (g : Nat) (vb : Value) (xs : List Int) (hs : Sl W0 vb (bs xs)) (hby : Byt xs) (hx : xs.length ≤ 140737488355328) (hB : Below W0.heap.size W0 w) (hg : W0.heap.size ≤ g) (hcu : Cur w g vb xs.length) :
    Calls Try.prog 27 #[.pointer (some ⟨g, 0, none⟩)] w fun e w' => ∃ (m : Ms) (v : Value), e = .returned (.agg #[.int .i64 m.k, .int .i64 m.f, .int .i64 m.t, .int .i64 m.h.n, .string m.h.r, .int .i64 m.n, v]) ∧ Dm 10 m ∧ Own w' w.heap.size w'.heap.size 9 v (ss m.x) ∧ Drawn W0 w g vb xs w' := by
  have HSW : Hid (Sl W0 vb (bs xs)) := hs
  have hgw := hcu.lt
  clear hs
  have B0 : Hid (Apart g (g + 1) w w) := Apart.refl _ _ _
  have cu0 : Hid (Cur w (g) vb xs.length) := hcu
  have bw0 : Hid (Below W0.heap.size W0 w) := hB
  obtain ⟨W1, HW1, b1, y1, hS1, r_res1⟩ : ∃ X, Hid ((w.alloc (.cells #[.int .i64 0, .int .i64 0, .int .i64 0, .int .i64 0, .string ⟨#[]⟩, .int .i64 0, .slice none 0 0] 28)) = X) ∧ Below w.heap.size w X ∧ w.heap.size + 1 ≤ X.heap.size ∧ Hid (X.heap.size = w.heap.size + 1) ∧ Hid (X.heap[w.heap.size]? = some (.cells #[.int .i64 0, .int .i64 0, .int .i64 0, .int .i64 0, .string ⟨#[]⟩, .int .i64 0, .slice none 0 0] 28 (0, 0))) := ⟨_, rfl, ((Below.refl _ _).alloc (Nat.le_refl _) _), by simp, by show _ = _; simp, (by show _ = _; exact alloc_nth1_0 w _)⟩
  have z1 : w.heap.size ≤ W1.heap.size := b1.size
  have B1 : Hid (Apart g (g + 1) w W1) := B0.out.grow b1
  have c_res1_0 : W1.cell? ⟨w.heap.size, 0, none⟩ = some (.int .i64 0) := row_at r_res1.out 0
  have c_res1_1 : W1.cell? ⟨w.heap.size, 1, none⟩ = some (.int .i64 0) := row_at r_res1.out 1
  have c_res1_2 : W1.cell? ⟨w.heap.size, 2, none⟩ = some (.int .i64 0) := row_at r_res1.out 2
  have c_res1_3 : W1.cell? ⟨w.heap.size, 3, none⟩ = some (.int .i64 0) := row_at r_res1.out 3
  have c_res1_4 : W1.cell? ⟨w.heap.size, 4, none⟩ = some (.string ⟨#[]⟩) := row_at r_res1.out 4
  have c_res1_5 : W1.cell? ⟨w.heap.size, 5, none⟩ = some (.int .i64 0) := row_at r_res1.out 5
  have c_res1_6 : W1.cell? ⟨w.heap.size, 6, none⟩ = some (.slice none 0 0) := row_at r_res1.out 6
  have cu1 : Hid (Cur W1 (g) vb xs.length) := cu0.out.keep b1
  have bw1 : Hid (Below W0.heap.size W0 W1) := bw0.out.trans (b1.mono bw0.out.size)
  clear cu0 bw0
  go_enter Try.func27, Try.ntmps27
  go_wp2_with fail
  rw [HW1.out]
  refine (draw13 W0 W1 g _ xs HSW.out hby hx bw1.out hg cu1.out).mono ?_
  rintro e W2 ⟨m, v_p, rfl, hD, hok, o_p2, d2⟩
  obtain ⟨ao_p, L_p, cap_p, rfl, hL_p, hM_p⟩ := o_p2.form
  have o_p2 : Hid (Own W2 W1.heap.size W2.heap.size 9 (.slice ao_p L_p cap_p) (ss m.x)) := o_p2
  clear hL_p hM_p
  have z2 : W1.heap.size ≤ W2.heap.size := d2.apart.size
  have B2 : Hid (Apart g (g + 1) w W2) := B1.out.trans d2.apart
  have cu2 : Hid (Cur W2 (g) vb xs.length) := d2.cur
  have bw2 : Hid (Below W0.heap.size W0 W2) := d2.below
  have r_res2 : Hid (W2.heap[w.heap.size]? = some (.cells #[.int .i64 0, .int .i64 0, .int .i64 0, .int .i64 0, .string ⟨#[]⟩, .int .i64 0, .slice none 0 0] 28 (0, 0))) := drawn_row r_res1.out d2 (by omega)
  have c_res2_0 : W2.cell? ⟨w.heap.size, 0, none⟩ = some (.int .i64 0) := row_at r_res2.out 0
  have c_res2_1 : W2.cell? ⟨w.heap.size, 1, none⟩ = some (.int .i64 0) := row_at r_res2.out 1
  have c_res2_2 : W2.cell? ⟨w.heap.size, 2, none⟩ = some (.int .i64 0) := row_at r_res2.out 2
  have c_res2_3 : W2.cell? ⟨w.heap.size, 3, none⟩ = some (.int .i64 0) := row_at r_res2.out 3
  have c_res2_4 : W2.cell? ⟨w.heap.size, 4, none⟩ = some (.string ⟨#[]⟩) := row_at r_res2.out 4
  have c_res2_5 : W2.cell? ⟨w.heap.size, 5, none⟩ = some (.int .i64 0) := row_at r_res2.out 5
  have c_res2_6 : W2.cell? ⟨w.heap.size, 6, none⟩ = some (.slice none 0 0) := row_at r_res2.out 6
  clear r_res1 c_res1_0 c_res1_1 c_res1_2 c_res1_3 c_res1_4 c_res1_5 c_res1_6
  clear cu1 bw1 d2
  have HD : Hid (Dm 9 m) := hD
  clear hD hok
  have a_res2_0 : ∀ o, (W2.alloc o).cell? ⟨w.heap.size, 0, none⟩ = some (.int .i64 0) := fun o => keepR c_res2_0 ((Below.refl _ _).alloc (Nat.le_refl _) o)
  have a_res2_1 : ∀ o, (W2.alloc o).cell? ⟨w.heap.size, 1, none⟩ = some (.int .i64 0) := fun o => keepR c_res2_1 ((Below.refl _ _).alloc (Nat.le_refl _) o)
  have a_res2_2 : ∀ o, (W2.alloc o).cell? ⟨w.heap.size, 2, none⟩ = some (.int .i64 0) := fun o => keepR c_res2_2 ((Below.refl _ _).alloc (Nat.le_refl _) o)
  have a_res2_3 : ∀ o, (W2.alloc o).cell? ⟨w.heap.size, 3, none⟩ = some (.int .i64 0) := fun o => keepR c_res2_3 ((Below.refl _ _).alloc (Nat.le_refl _) o)
  have a_res2_4 : ∀ o, (W2.alloc o).cell? ⟨w.heap.size, 4, none⟩ = some (.string ⟨#[]⟩) := fun o => keepR c_res2_4 ((Below.refl _ _).alloc (Nat.le_refl _) o)
  have a_res2_5 : ∀ o, (W2.alloc o).cell? ⟨w.heap.size, 5, none⟩ = some (.int .i64 0) := fun o => keepR c_res2_5 ((Below.refl _ _).alloc (Nat.le_refl _) o)
  have a_res2_6 : ∀ o, (W2.alloc o).cell? ⟨w.heap.size, 6, none⟩ = some (.slice none 0 0) := fun o => keepR c_res2_6 ((Below.refl _ _).alloc (Nat.le_refl _) o)
  obtain ⟨W3, HW3, b3, y3, hS3, r_m3⟩ : ∃ X, Hid ((W2.alloc (.cells #[.int .i64 m.k, .int .i64 m.f, .int .i64 m.t, .int .i64 m.h.n, .string m.h.r, .int .i64 m.n, .slice ao_p L_p cap_p] 28)) = X) ∧ Below W2.heap.size W2 X ∧ W2.heap.size + 1 ≤ X.heap.size ∧ Hid (X.heap.size = W2.heap.size + 1) ∧ Hid (X.heap[W2.heap.size]? = some (.cells #[.int .i64 m.k, .int .i64 m.f, .int .i64 m.t, .int .i64 m.h.n, .string m.h.r, .int .i64 m.n, .slice ao_p L_p cap_p] 28 (0, 0))) := ⟨_, rfl, ((Below.refl _ _).alloc (Nat.le_refl _) _), by simp, by show _ = _; simp, (by show _ = _; exact alloc_nth1_0 W2 _)⟩
  have z3 : W2.heap.size ≤ W3.heap.size := b3.size
  have B3 : Hid (Apart g (g + 1) w W3) := B2.out.grow b3
  have r_res3 : Hid (W3.heap[w.heap.size]? = some (.cells #[.int .i64 0, .int .i64 0, .int .i64 0, .int .i64 0, .string ⟨#[]⟩, .int .i64 0, .slice none 0 0] 28 (0, 0))) := rowKeep r_res2.out b3
  have o_p3 : Hid (Own W3 (W1.heap.size) (W2.heap.size) 9 (.slice ao_p L_p cap_p) (ss m.x)) := Own.later o_p2.out b3 (by omega)
  have c_res3_0 : W3.cell? ⟨w.heap.size, 0, none⟩ = some (.int .i64 0) := row_at r_res3.out 0
  have c_res3_1 : W3.cell? ⟨w.heap.size, 1, none⟩ = some (.int .i64 0) := row_at r_res3.out 1
  have c_res3_2 : W3.cell? ⟨w.heap.size, 2, none⟩ = some (.int .i64 0) := row_at r_res3.out 2
  have c_res3_3 : W3.cell? ⟨w.heap.size, 3, none⟩ = some (.int .i64 0) := row_at r_res3.out 3
  have c_res3_4 : W3.cell? ⟨w.heap.size, 4, none⟩ = some (.string ⟨#[]⟩) := row_at r_res3.out 4
  have c_res3_5 : W3.cell? ⟨w.heap.size, 5, none⟩ = some (.int .i64 0) := row_at r_res3.out 5
  have c_res3_6 : W3.cell? ⟨w.heap.size, 6, none⟩ = some (.slice none 0 0) := row_at r_res3.out 6
  have c_m3_0 : W3.cell? ⟨W2.heap.size, 0, none⟩ = some (.int .i64 m.k) := row_at r_m3.out 0
  have c_m3_1 : W3.cell? ⟨W2.heap.size, 1, none⟩ = some (.int .i64 m.f) := row_at r_m3.out 1
  have c_m3_2 : W3.cell? ⟨W2.heap.size, 2, none⟩ = some (.int .i64 m.t) := row_at r_m3.out 2
  have c_m3_3 : W3.cell? ⟨W2.heap.size, 3, none⟩ = some (.int .i64 m.h.n) := row_at r_m3.out 3
  have c_m3_4 : W3.cell? ⟨W2.heap.size, 4, none⟩ = some (.string m.h.r) := row_at r_m3.out 4
  have c_m3_5 : W3.cell? ⟨W2.heap.size, 5, none⟩ = some (.int .i64 m.n) := row_at r_m3.out 5
  have c_m3_6 : W3.cell? ⟨W2.heap.size, 6, none⟩ = some (.slice ao_p L_p cap_p) := row_at r_m3.out 6
  clear r_res2 c_res2_0 c_res2_1 c_res2_2 c_res2_3 c_res2_4 c_res2_5 c_res2_6 o_p2
  have cu3 : Hid (Cur W3 (g) vb xs.length) := cu2.out.keep b3
  have bw3 : Hid (Below W0.heap.size W0 W3) := bw2.out.trans (b3.mono bw2.out.size)
  clear cu2 bw2
  go_wp2_with fail
  rw [HW3.out]
  clear a_res2_0 a_res2_1 a_res2_2 a_res2_3 a_res2_4 a_res2_5 a_res2_6
  refine (once10 W0 W3 g _ xs 3 (by omega) (by omega) HSW.out hby hx bw3.out hg cu3.out).mono ?_
  rintro e W4 ⟨bb, rfl, d4⟩
  have z4 : W3.heap.size ≤ W4.heap.size := d4.apart.size
  have B4 : Hid (Apart g (g + 1) w W4) := B3.out.trans d4.apart
  have cu4 : Hid (Cur W4 (g) vb xs.length) := d4.cur
  have bw4 : Hid (Below W0.heap.size W0 W4) := d4.below
  have r_res4 : Hid (W4.heap[w.heap.size]? = some (.cells #[.int .i64 0, .int .i64 0, .int .i64 0, .int .i64 0, .string ⟨#[]⟩, .int .i64 0, .slice none 0 0] 28 (0, 0))) := drawn_row r_res3.out d4 (by omega)
  have r_m4 : Hid (W4.heap[W2.heap.size]? = some (.cells #[.int .i64 m.k, .int .i64 m.f, .int .i64 m.t, .int .i64 m.h.n, .string m.h.r, .int .i64 m.n, .slice ao_p L_p cap_p] 28 (0, 0))) := drawn_row r_m3.out d4 (by omega)
  have o_p4 : Hid (Own W4 (W1.heap.size) (W2.heap.size) 9 (.slice ao_p L_p cap_p) (ss m.x)) := Own.drawn o_p3.out d4 (by omega) (by omega)
  have c_res4_0 : W4.cell? ⟨w.heap.size, 0, none⟩ = some (.int .i64 0) := row_at r_res4.out 0
  have c_res4_1 : W4.cell? ⟨w.heap.size, 1, none⟩ = some (.int .i64 0) := row_at r_res4.out 1
  have c_res4_2 : W4.cell? ⟨w.heap.size, 2, none⟩ = some (.int .i64 0) := row_at r_res4.out 2
  have c_res4_3 : W4.cell? ⟨w.heap.size, 3, none⟩ = some (.int .i64 0) := row_at r_res4.out 3
  have c_res4_4 : W4.cell? ⟨w.heap.size, 4, none⟩ = some (.string ⟨#[]⟩) := row_at r_res4.out 4
  have c_res4_5 : W4.cell? ⟨w.heap.size, 5, none⟩ = some (.int .i64 0) := row_at r_res4.out 5
  have c_res4_6 : W4.cell? ⟨w.heap.size, 6, none⟩ = some (.slice none 0 0) := row_at r_res4.out 6
  have c_m4_0 : W4.cell? ⟨W2.heap.size, 0, none⟩ = some (.int .i64 m.k) := row_at r_m4.out 0
  have c_m4_1 : W4.cell? ⟨W2.heap.size, 1, none⟩ = some (.int .i64 m.f) := row_at r_m4.out 1
  have c_m4_2 : W4.cell? ⟨W2.heap.size, 2, none⟩ = some (.int .i64 m.t) := row_at r_m4.out 2
  have c_m4_3 : W4.cell? ⟨W2.heap.size, 3, none⟩ = some (.int .i64 m.h.n) := row_at r_m4.out 3
  have c_m4_4 : W4.cell? ⟨W2.heap.size, 4, none⟩ = some (.string m.h.r) := row_at r_m4.out 4
  have c_m4_5 : W4.cell? ⟨W2.heap.size, 5, none⟩ = some (.int .i64 m.n) := row_at r_m4.out 5
  have c_m4_6 : W4.cell? ⟨W2.heap.size, 6, none⟩ = some (.slice ao_p L_p cap_p) := row_at r_m4.out 6
  clear r_res3 c_res3_0 c_res3_1 c_res3_2 c_res3_3 c_res3_4 c_res3_5 c_res3_6 r_m3 c_m3_0 c_m3_1 c_m3_2 c_m3_3 c_m3_4 c_m3_5 c_m3_6 o_p3
  clear cu3 bw3 d4
  cases bb
  · go_wp2_with ((first | (refine wpList_load_row rfl 28 _ rfl (W2.heap.size) rfl 28 (mc m (.slice ao_p L_p cap_p)) (0, 0) _ r_m4.out Try.underlying28 rfl (sizeM _ _) ?_) | (refine wpl_partG rfl 28 _ _ rfl (w.heap.size) 0 (mc m (.slice ao_p L_p cap_p)) rfl rfl [.int .i64 0, .int .i64 0, .int .i64 0, .int .i64 0, .string ⟨#[]⟩, .int .i64 0, .slice none 0 0] 28 r_res4.out (Nat.le_of_ble_eq_true rfl) (sizeM _ _) (oneM _ rfl) [.int .i64 m.k, .int .i64 m.f, .int .i64 m.t, .int .i64 m.h.n, .string m.h.r, .int .i64 m.n, .slice ao_p L_p cap_p] rfl ?_)))
    intro W5 r_res5 g5
    have cu5 : Hid (Cur W5 (g) vb xs.length) := cu4.out.gro g5 (fun h9 => by injection h9 with h9; omega)
    have bw5 : Hid (Below W0.heap.size W0 W5) := belowGro bw4.out g5 bw4.out.size (fun k9 h9 => by injection h9 with h9; omega)
    clear cu4 bw4
    have r_res5 : Hid (W5.heap[w.heap.size]? = some (.cells #[.int .i64 m.k, .int .i64 m.f, .int .i64 m.t, .int .i64 m.h.n, .string m.h.r, .int .i64 m.n, .slice ao_p L_p cap_p] 28 (0, 0))) := r_res5
    have z5 : W4.heap.size ≤ W5.heap.size := g5.size
    have B5 : Hid (Apart g (g + 1) w W5) := Apart.groM B4.out g5 (fun k9 h9 => by injection h9 with h9; have := B4.out.size; omega)
    have r_m5 : Hid (W5.heap[W2.heap.size]? = some (.cells #[.int .i64 m.k, .int .i64 m.f, .int .i64 m.t, .int .i64 m.h.n, .string m.h.r, .int .i64 m.n, .slice ao_p L_p cap_p] 28 (0, 0))) := rowGro r_m4.out g5 (fun h9 => by injection h9 with h9; omega)
    have o_p5 : Hid (Own W5 (W1.heap.size) (W2.heap.size) 9 (.slice ao_p L_p cap_p) (ss m.x)) := Own.gro o_p4.out g5 (fun k9 h9 e9 => Own.neRow o_p4.out r_res4.out (by decide) (h9.trans e9.symm))
    have c_res5_0 : W5.cell? ⟨w.heap.size, 0, none⟩ = some (.int .i64 m.k) := row_at r_res5.out 0
    have c_res5_1 : W5.cell? ⟨w.heap.size, 1, none⟩ = some (.int .i64 m.f) := row_at r_res5.out 1
    have c_res5_2 : W5.cell? ⟨w.heap.size, 2, none⟩ = some (.int .i64 m.t) := row_at r_res5.out 2
    have c_res5_3 : W5.cell? ⟨w.heap.size, 3, none⟩ = some (.int .i64 m.h.n) := row_at r_res5.out 3
    have c_res5_4 : W5.cell? ⟨w.heap.size, 4, none⟩ = some (.string m.h.r) := row_at r_res5.out 4
    have c_res5_5 : W5.cell? ⟨w.heap.size, 5, none⟩ = some (.int .i64 m.n) := row_at r_res5.out 5
    have c_res5_6 : W5.cell? ⟨w.heap.size, 6, none⟩ = some (.slice ao_p L_p cap_p) := row_at r_res5.out 6
    have c_m5_0 : W5.cell? ⟨W2.heap.size, 0, none⟩ = some (.int .i64 m.k) := row_at r_m5.out 0
    have c_m5_1 : W5.cell? ⟨W2.heap.size, 1, none⟩ = some (.int .i64 m.f) := row_at r_m5.out 1
    have c_m5_2 : W5.cell? ⟨W2.heap.size, 2, none⟩ = some (.int .i64 m.t) := row_at r_m5.out 2
    have c_m5_3 : W5.cell? ⟨W2.heap.size, 3, none⟩ = some (.int .i64 m.h.n) := row_at r_m5.out 3
    have c_m5_4 : W5.cell? ⟨W2.heap.size, 4, none⟩ = some (.string m.h.r) := row_at r_m5.out 4
    have c_m5_5 : W5.cell? ⟨W2.heap.size, 5, none⟩ = some (.int .i64 m.n) := row_at r_m5.out 5
    have c_m5_6 : W5.cell? ⟨W2.heap.size, 6, none⟩ = some (.slice ao_p L_p cap_p) := row_at r_m5.out 6
    clear r_m4 c_m4_0 c_m4_1 c_m4_2 c_m4_3 c_m4_4 c_m4_5 c_m4_6 o_p4
    clear r_res4 c_res4_0 c_res4_1 c_res4_2 c_res4_3 c_res4_4 c_res4_5 c_res4_6
    go_wp2
    exact bodyPost_ret (v := .agg (mc m (.slice ao_p L_p cap_p))) (results_cell_row rfl _ _ (w.heap.size) 28 _ (0, 0) _ rfl r_res5.out Try.underlying28 rfl (sizeM _ _)) rfl ⟨m, .slice ao_p L_p cap_p, rfl, ⟨Nat.le_trans HD.out.len (by omega), HD.out.sz, HD.out.hd⟩, Own.mono o_p5.out (by omega) (by omega), ⟨cu5.out, B5.out, bw5.out⟩⟩
  · go_wp2_with fail
    refine (bend13 W0 W4 g _ xs _ m o_p4.out.sl HD.out HSW.out hby hx bw4.out hg cu4.out).mono ?_
    rintro e W5 ⟨m', v_q, rfl, hD2, o_q5, d5⟩
    obtain ⟨ao_q, L_q, cap_q, rfl, hL_q, hM_q⟩ := o_q5.form
    have o_q5 : Hid (Own W5 W4.heap.size W5.heap.size 9 (.slice ao_q L_q cap_q) (ss m'.x)) := o_q5
    clear hL_q hM_q
    have z5 : W4.heap.size ≤ W5.heap.size := d5.apart.size
    have B5 : Hid (Apart g (g + 1) w W5) := B4.out.trans d5.apart
    have cu5 : Hid (Cur W5 (g) vb xs.length) := d5.cur
    have bw5 : Hid (Below W0.heap.size W0 W5) := d5.below
    have r_res5 : Hid (W5.heap[w.heap.size]? = some (.cells #[.int .i64 0, .int .i64 0, .int .i64 0, .int .i64 0, .string ⟨#[]⟩, .int .i64 0, .slice none 0 0] 28 (0, 0))) := drawn_row r_res4.out d5 (by omega)
    have r_m5 : Hid (W5.heap[W2.heap.size]? = some (.cells #[.int .i64 m.k, .int .i64 m.f, .int .i64 m.t, .int .i64 m.h.n, .string m.h.r, .int .i64 m.n, .slice ao_p L_p cap_p] 28 (0, 0))) := drawn_row r_m4.out d5 (by omega)
    have o_p5 : Hid (Own W5 (W1.heap.size) (W2.heap.size) 9 (.slice ao_p L_p cap_p) (ss m.x)) := Own.drawn o_p4.out d5 (by omega) (by omega)
    have c_res5_0 : W5.cell? ⟨w.heap.size, 0, none⟩ = some (.int .i64 0) := row_at r_res5.out 0
    have c_res5_1 : W5.cell? ⟨w.heap.size, 1, none⟩ = some (.int .i64 0) := row_at r_res5.out 1
    have c_res5_2 : W5.cell? ⟨w.heap.size, 2, none⟩ = some (.int .i64 0) := row_at r_res5.out 2
    have c_res5_3 : W5.cell? ⟨w.heap.size, 3, none⟩ = some (.int .i64 0) := row_at r_res5.out 3
    have c_res5_4 : W5.cell? ⟨w.heap.size, 4, none⟩ = some (.string ⟨#[]⟩) := row_at r_res5.out 4
    have c_res5_5 : W5.cell? ⟨w.heap.size, 5, none⟩ = some (.int .i64 0) := row_at r_res5.out 5
    have c_res5_6 : W5.cell? ⟨w.heap.size, 6, none⟩ = some (.slice none 0 0) := row_at r_res5.out 6
    have c_m5_0 : W5.cell? ⟨W2.heap.size, 0, none⟩ = some (.int .i64 m.k) := row_at r_m5.out 0
    have c_m5_1 : W5.cell? ⟨W2.heap.size, 1, none⟩ = some (.int .i64 m.f) := row_at r_m5.out 1
    have c_m5_2 : W5.cell? ⟨W2.heap.size, 2, none⟩ = some (.int .i64 m.t) := row_at r_m5.out 2
    have c_m5_3 : W5.cell? ⟨W2.heap.size, 3, none⟩ = some (.int .i64 m.h.n) := row_at r_m5.out 3
    have c_m5_4 : W5.cell? ⟨W2.heap.size, 4, none⟩ = some (.string m.h.r) := row_at r_m5.out 4
    have c_m5_5 : W5.cell? ⟨W2.heap.size, 5, none⟩ = some (.int .i64 m.n) := row_at r_m5.out 5
    have c_m5_6 : W5.cell? ⟨W2.heap.size, 6, none⟩ = some (.slice ao_p L_p cap_p) := row_at r_m5.out 6
    clear r_res4 c_res4_0 c_res4_1 c_res4_2 c_res4_3 c_res4_4 c_res4_5 c_res4_6 r_m4 c_m4_0 c_m4_1 c_m4_2 c_m4_3 c_m4_4 c_m4_5 c_m4_6 o_p4
    clear cu4 bw4 d5
    have HD2 : Hid (Dm 10 m') := hD2
    clear hD2
    go_wp2_with (refine wpl_partG rfl 28 _ _ rfl (W2.heap.size) 0 (mc m' (.slice ao_q L_q cap_q)) rfl rfl [.int .i64 m.k, .int .i64 m.f, .int .i64 m.t, .int .i64 m.h.n, .string m.h.r, .int .i64 m.n, .slice ao_p L_p cap_p] 28 r_m5.out (Nat.le_of_ble_eq_true rfl) (sizeM _ _) (oneM _ rfl) [.int .i64 m'.k, .int .i64 m'.f, .int .i64 m'.t, .int .i64 m'.h.n, .string m'.h.r, .int .i64 m'.n, .slice ao_q L_q cap_q] rfl ?_)
    intro W6 r_m6 g6
    have cu6 : Hid (Cur W6 (g) vb xs.length) := cu5.out.gro g6 (fun h9 => by injection h9 with h9; omega)
    have bw6 : Hid (Below W0.heap.size W0 W6) := belowGro bw5.out g6 bw5.out.size (fun k9 h9 => by injection h9 with h9; omega)
    clear cu5 bw5
    have r_m6 : Hid (W6.heap[W2.heap.size]? = some (.cells #[.int .i64 m'.k, .int .i64 m'.f, .int .i64 m'.t, .int .i64 m'.h.n, .string m'.h.r, .int .i64 m'.n, .slice ao_q L_q cap_q] 28 (0, 0))) := r_m6
    have z6 : W5.heap.size ≤ W6.heap.size := g6.size
    have B6 : Hid (Apart g (g + 1) w W6) := Apart.groM B5.out g6 (fun k9 h9 => by injection h9 with h9; have := B5.out.size; omega)
    have r_res6 : Hid (W6.heap[w.heap.size]? = some (.cells #[.int .i64 0, .int .i64 0, .int .i64 0, .int .i64 0, .string ⟨#[]⟩, .int .i64 0, .slice none 0 0] 28 (0, 0))) := rowGro r_res5.out g6 (fun h9 => by injection h9 with h9; omega)
    have o_p6 : Hid (Own W6 (W1.heap.size) (W2.heap.size) 9 (.slice ao_p L_p cap_p) (ss m.x)) := Own.gro o_p5.out g6 (fun k9 h9 e9 => Own.neRow o_p5.out r_m5.out (by decide) (h9.trans e9.symm))
    have o_q6 : Hid (Own W6 (W4.heap.size) (W5.heap.size) 9 (.slice ao_q L_q cap_q) (ss m'.x)) := Own.gro o_q5.out g6 (fun k9 h9 e9 => Own.neRow o_q5.out r_m5.out (by decide) (h9.trans e9.symm))
    have c_res6_0 : W6.cell? ⟨w.heap.size, 0, none⟩ = some (.int .i64 0) := row_at r_res6.out 0
    have c_res6_1 : W6.cell? ⟨w.heap.size, 1, none⟩ = some (.int .i64 0) := row_at r_res6.out 1
    have c_res6_2 : W6.cell? ⟨w.heap.size, 2, none⟩ = some (.int .i64 0) := row_at r_res6.out 2
    have c_res6_3 : W6.cell? ⟨w.heap.size, 3, none⟩ = some (.int .i64 0) := row_at r_res6.out 3
    have c_res6_4 : W6.cell? ⟨w.heap.size, 4, none⟩ = some (.string ⟨#[]⟩) := row_at r_res6.out 4
    have c_res6_5 : W6.cell? ⟨w.heap.size, 5, none⟩ = some (.int .i64 0) := row_at r_res6.out 5
    have c_res6_6 : W6.cell? ⟨w.heap.size, 6, none⟩ = some (.slice none 0 0) := row_at r_res6.out 6
    have c_m6_0 : W6.cell? ⟨W2.heap.size, 0, none⟩ = some (.int .i64 m'.k) := row_at r_m6.out 0
    have c_m6_1 : W6.cell? ⟨W2.heap.size, 1, none⟩ = some (.int .i64 m'.f) := row_at r_m6.out 1
    have c_m6_2 : W6.cell? ⟨W2.heap.size, 2, none⟩ = some (.int .i64 m'.t) := row_at r_m6.out 2
    have c_m6_3 : W6.cell? ⟨W2.heap.size, 3, none⟩ = some (.int .i64 m'.h.n) := row_at r_m6.out 3
    have c_m6_4 : W6.cell? ⟨W2.heap.size, 4, none⟩ = some (.string m'.h.r) := row_at r_m6.out 4
    have c_m6_5 : W6.cell? ⟨W2.heap.size, 5, none⟩ = some (.int .i64 m'.n) := row_at r_m6.out 5
    have c_m6_6 : W6.cell? ⟨W2.heap.size, 6, none⟩ = some (.slice ao_q L_q cap_q) := row_at r_m6.out 6
    clear r_res5 c_res5_0 c_res5_1 c_res5_2 c_res5_3 c_res5_4 c_res5_5 c_res5_6 o_p5 o_q5
    clear r_m5 c_m5_0 c_m5_1 c_m5_2 c_m5_3 c_m5_4 c_m5_5 c_m5_6
    clear g6
    go_wp2_with ((first | (refine wpList_load_row rfl 28 _ rfl (W2.heap.size) rfl 28 (mc m' (.slice ao_q L_q cap_q)) (0, 0) _ r_m6.out Try.underlying28 rfl (sizeM _ _) ?_) | (refine wpl_partG rfl 28 _ _ rfl (w.heap.size) 0 (mc m' (.slice ao_q L_q cap_q)) rfl rfl [.int .i64 0, .int .i64 0, .int .i64 0, .int .i64 0, .string ⟨#[]⟩, .int .i64 0, .slice none 0 0] 28 r_res6.out (Nat.le_of_ble_eq_true rfl) (sizeM _ _) (oneM _ rfl) [.int .i64 m'.k, .int .i64 m'.f, .int .i64 m'.t, .int .i64 m'.h.n, .string m'.h.r, .int .i64 m'.n, .slice ao_q L_q cap_q] rfl ?_)))
    intro W7 r_res7 g7
    have cu7 : Hid (Cur W7 (g) vb xs.length) := cu6.out.gro g7 (fun h9 => by injection h9 with h9; omega)
    have bw7 : Hid (Below W0.heap.size W0 W7) := belowGro bw6.out g7 bw6.out.size (fun k9 h9 => by injection h9 with h9; omega)
    clear cu6 bw6
    have r_res7 : Hid (W7.heap[w.heap.size]? = some (.cells #[.int .i64 m'.k, .int .i64 m'.f, .int .i64 m'.t, .int .i64 m'.h.n, .string m'.h.r, .int .i64 m'.n, .slice ao_q L_q cap_q] 28 (0, 0))) := r_res7
    have z7 : W6.heap.size ≤ W7.heap.size := g7.size
    have B7 : Hid (Apart g (g + 1) w W7) := Apart.groM B6.out g7 (fun k9 h9 => by injection h9 with h9; have := B6.out.size; omega)
    have r_m7 : Hid (W7.heap[W2.heap.size]? = some (.cells #[.int .i64 m'.k, .int .i64 m'.f, .int .i64 m'.t, .int .i64 m'.h.n, .string m'.h.r, .int .i64 m'.n, .slice ao_q L_q cap_q] 28 (0, 0))) := rowGro r_m6.out g7 (fun h9 => by injection h9 with h9; omega)
    have o_p7 : Hid (Own W7 (W1.heap.size) (W2.heap.size) 9 (.slice ao_p L_p cap_p) (ss m.x)) := Own.gro o_p6.out g7 (fun k9 h9 e9 => Own.neRow o_p6.out r_res6.out (by decide) (h9.trans e9.symm))
    have o_q7 : Hid (Own W7 (W4.heap.size) (W5.heap.size) 9 (.slice ao_q L_q cap_q) (ss m'.x)) := Own.gro o_q6.out g7 (fun k9 h9 e9 => Own.neRow o_q6.out r_res6.out (by decide) (h9.trans e9.symm))
    have c_res7_0 : W7.cell? ⟨w.heap.size, 0, none⟩ = some (.int .i64 m'.k) := row_at r_res7.out 0
    have c_res7_1 : W7.cell? ⟨w.heap.size, 1, none⟩ = some (.int .i64 m'.f) := row_at r_res7.out 1
    have c_res7_2 : W7.cell? ⟨w.heap.size, 2, none⟩ = some (.int .i64 m'.t) := row_at r_res7.out 2
    have c_res7_3 : W7.cell? ⟨w.heap.size, 3, none⟩ = some (.int .i64 m'.h.n) := row_at r_res7.out 3
    have c_res7_4 : W7.cell? ⟨w.heap.size, 4, none⟩ = some (.string m'.h.r) := row_at r_res7.out 4
    have c_res7_5 : W7.cell? ⟨w.heap.size, 5, none⟩ = some (.int .i64 m'.n) := row_at r_res7.out 5
    have c_res7_6 : W7.cell? ⟨w.heap.size, 6, none⟩ = some (.slice ao_q L_q cap_q) := row_at r_res7.out 6
    have c_m7_0 : W7.cell? ⟨W2.heap.size, 0, none⟩ = some (.int .i64 m'.k) := row_at r_m7.out 0
    have c_m7_1 : W7.cell? ⟨W2.heap.size, 1, none⟩ = some (.int .i64 m'.f) := row_at r_m7.out 1
    have c_m7_2 : W7.cell? ⟨W2.heap.size, 2, none⟩ = some (.int .i64 m'.t) := row_at r_m7.out 2
    have c_m7_3 : W7.cell? ⟨W2.heap.size, 3, none⟩ = some (.int .i64 m'.h.n) := row_at r_m7.out 3
    have c_m7_4 : W7.cell? ⟨W2.heap.size, 4, none⟩ = some (.string m'.h.r) := row_at r_m7.out 4
    have c_m7_5 : W7.cell? ⟨W2.heap.size, 5, none⟩ = some (.int .i64 m'.n) := row_at r_m7.out 5
    have c_m7_6 : W7.cell? ⟨W2.heap.size, 6, none⟩ = some (.slice ao_q L_q cap_q) := row_at r_m7.out 6
    clear r_m6 c_m6_0 c_m6_1 c_m6_2 c_m6_3 c_m6_4 c_m6_5 c_m6_6 o_p6 o_q6
    clear r_res6 c_res6_0 c_res6_1 c_res6_2 c_res6_3 c_res6_4 c_res6_5 c_res6_6
    go_wp2
    exact bodyPost_ret (v := .agg (mc m' (.slice ao_q L_q cap_q))) (results_cell_row rfl _ _ (w.heap.size) 28 _ (0, 0) _ rfl r_res7.out Try.underlying28 rfl (sizeM _ _)) rfl ⟨m', .slice ao_q L_q cap_q, rfl, HD2.out, Own.mono o_q7.out (by omega) (by omega), ⟨cu7.out, B7.out, bw7.out⟩⟩

set_option maxRecDepth 1000000 in
set_option maxHeartbeats 16000000 in
theorem drawPut13 (w : World) (vb : Value) (xs : List Int) (hs : Sl w vb (bs xs)) (hby : Byt xs) (hx : xs.length ≤ 140737488355328) :
    Calls Try.prog 8 #[vb] w fun e w' => ∃ (m : Ms) (v : Value), e = .returned (.agg #[.int .i64 m.k, .int .i64 m.f, .int .i64 m.t, .int .i64 m.h.n, .string m.h.r, .int .i64 m.n, v]) ∧ Dm 10 m ∧ Own w' w.heap.size w'.heap.size 9 v (ss m.x) ∧ Below w.heap.size w w' := by
  have HS : Hid (Sl w vb (bs xs)) := hs
  obtain ⟨aob, capb, rfl, hcb⟩ := hs.form
  clear hs
  have B0 : Hid (Below w.heap.size w w) := Below.refl _ _
  obtain ⟨W1, HW1, b1, y1, hS1, r_res1⟩ : ∃ X, Hid ((w.alloc (.cells #[.int .i64 0, .int .i64 0, .int .i64 0, .int .i64 0, .string ⟨#[]⟩, .int .i64 0, .slice none 0 0] 28)) = X) ∧ Below w.heap.size w X ∧ w.heap.size + 1 ≤ X.heap.size ∧ Hid (X.heap.size = w.heap.size + 1) ∧ Hid (X.heap[w.heap.size]? = some (.cells #[.int .i64 0, .int .i64 0, .int .i64 0, .int .i64 0, .string ⟨#[]⟩, .int .i64 0, .slice none 0 0] 28 (0, 0))) := ⟨_, rfl, ((Below.refl _ _).alloc (Nat.le_refl _) _), by simp, by show _ = _; simp, (by show _ = _; exact alloc_nth1_0 w _)⟩
  have z1 : w.heap.size ≤ W1.heap.size := b1.size
  have B1 : Hid (Below w.heap.size w W1) := B0.out.trans (b1.mono B0.out.size)
  have c_res1_0 : W1.cell? ⟨w.heap.size, 0, none⟩ = some (.int .i64 0) := row_at r_res1.out 0
  have c_res1_1 : W1.cell? ⟨w.heap.size, 1, none⟩ = some (.int .i64 0) := row_at r_res1.out 1
  have c_res1_2 : W1.cell? ⟨w.heap.size, 2, none⟩ = some (.int .i64 0) := row_at r_res1.out 2
  have c_res1_3 : W1.cell? ⟨w.heap.size, 3, none⟩ = some (.int .i64 0) := row_at r_res1.out 3
  have c_res1_4 : W1.cell? ⟨w.heap.size, 4, none⟩ = some (.string ⟨#[]⟩) := row_at r_res1.out 4
  have c_res1_5 : W1.cell? ⟨w.heap.size, 5, none⟩ = some (.int .i64 0) := row_at r_res1.out 5
  have c_res1_6 : W1.cell? ⟨w.heap.size, 6, none⟩ = some (.slice none 0 0) := row_at r_res1.out 6
  go_enter Try.func8, Try.ntmps8
  go_wp2_with fail
  rw [HW1.out]
  refine (new_any W1 _ xs (HS.out.later B1.out) hby hx).mono ?_
  rintro e W2 ⟨rfl, d2⟩
  have hcg : W1.heap.size < W2.heap.size := d2.cur.lt
  have HSW : Hid (Sl W1 (.slice aob (bs xs).length capb) (bs xs)) := (HS.out.later B1.out)
  have cu1 : Hid True := trivial
  have bw1 : Hid True := trivial
  have z2 : W1.heap.size ≤ W2.heap.size := d2.apart.size
  have B2 : Hid (Below w.heap.size w W2) := B1.out.trans (d2.below.mono B1.out.size)
  have cu2 : Hid (Cur W2 (W1.heap.size) (.slice aob (bs xs).length capb) xs.length) := d2.cur
  have bw2 : Hid (Below W1.heap.size W1 W2) := d2.below
  have r_res2 : Hid (W2.heap[w.heap.size]? = some (.cells #[.int .i64 0, .int .i64 0, .int .i64 0, .int .i64 0, .string ⟨#[]⟩, .int .i64 0, .slice none 0 0] 28 (0, 0))) := drawn_row r_res1.out d2 (by omega)
  have c_res2_0 : W2.cell? ⟨w.heap.size, 0, none⟩ = some (.int .i64 0) := row_at r_res2.out 0
  have c_res2_1 : W2.cell? ⟨w.heap.size, 1, none⟩ = some (.int .i64 0) := row_at r_res2.out 1
  have c_res2_2 : W2.cell? ⟨w.heap.size, 2, none⟩ = some (.int .i64 0) := row_at r_res2.out 2
  have c_res2_3 : W2.cell? ⟨w.heap.size, 3, none⟩ = some (.int .i64 0) := row_at r_res2.out 3
  have c_res2_4 : W2.cell? ⟨w.heap.size, 4, none⟩ = some (.string ⟨#[]⟩) := row_at r_res2.out 4
  have c_res2_5 : W2.cell? ⟨w.heap.size, 5, none⟩ = some (.int .i64 0) := row_at r_res2.out 5
  have c_res2_6 : W2.cell? ⟨w.heap.size, 6, none⟩ = some (.slice none 0 0) := row_at r_res2.out 6
  clear r_res1 c_res1_0 c_res1_1 c_res1_2 c_res1_3 c_res1_4 c_res1_5 c_res1_6
  clear cu1 bw1 d2
  go_wp2_with fail
  refine (any13 W1 W2 (W1.heap.size) _ xs HSW.out hby hx bw2.out (Nat.le_refl _) cu2.out).mono ?_
  rintro e W3 ⟨m, v_p, rfl, hD, o_p3, d3⟩
  obtain ⟨ao_p, L_p, cap_p, rfl, hL_p, hM_p⟩ := o_p3.form
  have o_p3 : Hid (Own W3 W2.heap.size W3.heap.size 9 (.slice ao_p L_p cap_p) (ss m.x)) := o_p3
  clear hL_p hM_p
  have z3 : W2.heap.size ≤ W3.heap.size := d3.apart.size
  have B3 : Hid (Below w.heap.size w W3) := B1.out.trans (d3.below.mono B1.out.size)
  have cu3 : Hid (Cur W3 (W1.heap.size) (.slice aob (bs xs).length capb) xs.length) := d3.cur
  have bw3 : Hid (Below W1.heap.size W1 W3) := d3.below
  have r_res3 : Hid (W3.heap[w.heap.size]? = some (.cells #[.int .i64 0, .int .i64 0, .int .i64 0, .int .i64 0, .string ⟨#[]⟩, .int .i64 0, .slice none 0 0] 28 (0, 0))) := drawn_row r_res2.out d3 (by omega)
  have c_res3_0 : W3.cell? ⟨w.heap.size, 0, none⟩ = some (.int .i64 0) := row_at r_res3.out 0
  have c_res3_1 : W3.cell? ⟨w.heap.size, 1, none⟩ = some (.int .i64 0) := row_at r_res3.out 1
  have c_res3_2 : W3.cell? ⟨w.heap.size, 2, none⟩ = some (.int .i64 0) := row_at r_res3.out 2
  have c_res3_3 : W3.cell? ⟨w.heap.size, 3, none⟩ = some (.int .i64 0) := row_at r_res3.out 3
  have c_res3_4 : W3.cell? ⟨w.heap.size, 4, none⟩ = some (.string ⟨#[]⟩) := row_at r_res3.out 4
  have c_res3_5 : W3.cell? ⟨w.heap.size, 5, none⟩ = some (.int .i64 0) := row_at r_res3.out 5
  have c_res3_6 : W3.cell? ⟨w.heap.size, 6, none⟩ = some (.slice none 0 0) := row_at r_res3.out 6
  clear r_res2 c_res2_0 c_res2_1 c_res2_2 c_res2_3 c_res2_4 c_res2_5 c_res2_6
  clear cu2 bw2 d3
  clear cu3 bw3
  go_wp2_with (refine wpList_store_row rfl 28 _ _ rfl (w.heap.size) (mc m (.slice ao_p L_p cap_p)) rfl rfl 28 _ r_res3.out (sizeM _ _) rfl (oneM _ rfl) ?_)
  exact bodyPost_ret (v := .agg (mc m (.slice ao_p L_p cap_p))) (results_cell_row rfl _ _ (w.heap.size) 28 _ (0, 0) _ rfl (setRow_heap _ _ _ _ _ (0, 0) r_res3.out) Try.underlying28 rfl (sizeM _ _)) rfl ⟨m, .slice ao_p L_p cap_p, rfl, hD, (Own.setRow o_p3.out _ (by omega)).mono (by omega) (by rw [size_setRow]; omega), below_setRow B3.out (by omega) _⟩

end Go.Proofs.Yteemblfjghnooaa.Mg
