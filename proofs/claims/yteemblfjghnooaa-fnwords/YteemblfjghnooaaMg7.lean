/- Chapter 13: draws of bytes that may be a word; FnWords, over contracts of the landed functions. -/
import Derived.Test.YteemblfjghnooaaMg6
import Derived.Test.YteemblfjghnooaaMg3
import Derived.Test.YteemblfjghnooaaHeE
namespace Go.Proofs.Yteemblfjghnooaa.Mg
open Go.RowKit Go.Proofs.Yteemblfjghnooaa.Mem Go.Proofs.Yteemblfjghnooaa.Laws Go.Proofs.Yteemblfjghnooaa.Bytes Go.Proofs.Yteemblfjghnooaa.Sha Go.Proofs.Yteemblfjghnooaa.Tr Go.Proofs.Yteemblfjghnooaa.Draw Go.Proofs.Yteemblfjghnooaa.He Go.Proofs.Yteemblfjghnooaa.Lg
set_option linter.unusedVariables false
set_option linter.unusedSimpArgs false

theorem wpl_elemM {P : Program} {ops : Array Oper} {rest : List Oper} {op : Oper} {a : Act} {w : World} {Q : Exit → Act → World → Prop} (hgd : op.guard = none) (ty : TypeId) (x y : Operand) (ho : op.op = .store ty x y) {lo hi gb n cap k : Nat} {e : TypeId} {cs : List Value}
    (o : Own w lo hi e (.slice (some ⟨gb, 0, none⟩) n cap) cs) (hk : k < cs.length) (v : Value) (hx : a.eval x = .pointer (some ⟨gb, k, none⟩)) (hy : a.eval y = v) (hin : (P.info? ty).map (·.size) = some 1) (h1 : v.oneCell' = true)
    (h : ∀ w', Own w' lo hi e (.slice (some ⟨gb, 0, none⟩) n cap) (cs.set k v) → w.grownBy w' (some gb) → wpList P ops Q rest (a.put op.dst undef) w') : wpList P ops Q (op :: rest) a w :=
  wpList_plain hgd fun _ hK => wp_elemG ty x y ho o hk v hx hy hin h1 (fun w' r g => hK _ _ (h w' r g))
theorem tot3 : ∀ l : List ByteArray, (∀ s ∈ l, s.size ≤ 3) → Puts.tot l ≤ 3 * l.length := by
  intro l
  induction l with
  | nil => intro _; exact Nat.le_refl _
  | cons a r ih =>
    intro hl
    have h1 := hl a (List.mem_cons_self ..)
    have h2 := ih (fun s hs => hl s (List.mem_cons_of_mem _ hs))
    simp only [Puts.tot, List.length_cons]
    omega
theorem bytes_small {N : Nat} {m : Ms} (h : Dm N m) (hN : N ≤ 10) : (bytesM m).length ≤ 400 := by
  have h1 := bytes_len m
  have h2 := tot3 m.x h.sz
  have h3 := h.len
  have h4 := h.hd
  omega
theorem size_txs13 {t : ByteArray} : ∀ l : List ByteArray, t ∈ l → t.size ≤ (Puts.txs l).length := by
  intro l
  induction l with
  | nil => intro h; cases h
  | cons a r ih =>
    intro h
    simp only [Puts.txs, List.length_append]
    rcases List.mem_cons.1 h with rfl | h
    · have : (Puts.tx t).length = (Puts.num (t.size : Int)).length + t.size := by unfold Puts.tx; rw [List.length_append, sb_len]
      omega
    · have := ih h; omega
theorem size_bytes {m : Ms} {t : ByteArray} (ht : t ∈ m.x) : t.size ≤ (bytesM m).length := by
  have := size_txs13 m.x ht
  unfold bytesM
  simp only [List.length_append]
  omega
theorem set_byt {P : List Int} (h : Byt P) (i : Nat) {j : Int} (hj : 0 ≤ j ∧ j ≤ 255) : Byt (P.set i j) := by
  intro x hx
  rcases List.mem_or_eq_of_mem_set hx with h9 | h9
  · exact h x h9
  · rw [h9]; exact hj

set_option maxRecDepth 1000000 in
set_option maxHeartbeats 16000000 in
theorem drawGet13 (w : World) (vb : Value) (xs : List Int) (hs : Sl w vb (bs xs)) (hby : Byt xs) (hx : xs.length ≤ 140737488355328) :
    Calls Try.prog 10 #[vb] w fun e w' => ∃ (ao : Option Addr) (cap : Nat) (b : List Int), e = .returned (.slice ao b.length cap) ∧ Byt b ∧ b.length ≤ 500 ∧ Sl w' (.slice ao b.length cap) (bs b) ∧ Below w.heap.size w w' := by
  have HS : Hid (Sl w vb (bs xs)) := hs
  obtain ⟨aob, capb, rfl, hcb⟩ := hs.form
  clear hs
  have B0 : Hid (Below w.heap.size w w) := Below.refl _ _
  obtain ⟨i5, hi5, hz5a, hz5b, hz5c⟩ := info_parts info5
  go_enter Try.func10, Try.ntmps10
  go_wp2_with fail
  refine (new_any w _ xs HS.out hby hx).mono ?_
  rintro e W1 ⟨rfl, d1⟩
  have hcg : w.heap.size < W1.heap.size := d1.cur.lt
  have HSW : Hid (Sl w (.slice aob (bs xs).length capb) (bs xs)) := HS.out
  have cu0 : Hid True := trivial
  have bw0 : Hid True := trivial
  have z1 : w.heap.size ≤ W1.heap.size := d1.apart.size
  have B1 : Hid (Below w.heap.size w W1) := B0.out.trans (d1.below.mono B0.out.size)
  have cu1 : Hid (Cur W1 (w.heap.size) (.slice aob (bs xs).length capb) xs.length) := d1.cur
  have bw1 : Hid (Below w.heap.size w W1) := d1.below
  clear cu0 bw0 d1
  go_wp2_with fail
  refine (draw13 w W1 (w.heap.size) _ xs HSW.out hby hx bw1.out (Nat.le_refl _) cu1.out).mono ?_
  rintro e W2 ⟨m, v_p, rfl, hD, hok, o_p2, d2⟩
  obtain ⟨ao_p, L_p, cap_p, rfl, hL_p, hM_p⟩ := o_p2.form
  have o_p2 : Hid (Own W2 W1.heap.size W2.heap.size 9 (.slice ao_p L_p cap_p) (ss m.x)) := o_p2
  clear hL_p hM_p
  have z2 : W1.heap.size ≤ W2.heap.size := d2.apart.size
  have B2 : Hid (Below w.heap.size w W2) := B0.out.trans (d2.below.mono B0.out.size)
  have cu2 : Hid (Cur W2 (w.heap.size) (.slice aob (bs xs).length capb) xs.length) := d2.cur
  have bw2 : Hid (Below w.heap.size w W2) := d2.below
  clear cu1 bw1 d2
  have hP1 := bytes_pos m
  have hP2 := bytes_small hD (by omega)
  have hPB := bytes_byt m
  have htt := tot3 m.x hD.sz
  have hlen := hD.len
  have hhd := hD.hd
  have q1 : ∀ W v1, Sl W v1 (ss m.x) → _ := fun W v1 h1 => putm_spec W v1 m h1 (by omega) (by omega) (by omega)
  have e9 : putM m = bytesM m := by unfold putM; rw [if_pos hok]
  obtain ⟨P, hP⟩ : ∃ P, bytesM m = P := ⟨_, rfl⟩
  rw [hP] at e9 hP1 hP2 hPB
  simp only [e9] at q1
  have HPB : Hid (Byt P) := hPB
  clear e9 hP hD hok hPB htt
  go_wp2_with fail
  refine (q1 W2 _ o_p2.out.sl).mono ?_
  rintro e W3 ⟨v_b, rfl, o_b3, b3⟩
  obtain ⟨ao_b, L_b, cap_b, rfl, hL_b, hM_b⟩ := o_b3.form
  have o_b3 : Hid (Own W3 W2.heap.size W3.heap.size 5 (.slice ao_b L_b cap_b) (bs P)) := o_b3
  clear hL_b hM_b
  have z3 : W2.heap.size ≤ W3.heap.size := b3.size
  have B3 : Hid (Below w.heap.size w W3) := B2.out.trans (b3.mono B2.out.size)
  have o_p3 : Hid (Own W3 (W1.heap.size) (W2.heap.size) 9 (.slice ao_p L_p cap_p) (ss m.x)) := Own.later o_p2.out b3 (by omega)
  clear o_p2
  have cu3 : Hid (Cur W3 (w.heap.size) (.slice aob (bs xs).length capb) xs.length) := cu2.out.keep b3
  have bw3 : Hid (Below w.heap.size w W3) := bw2.out.trans (b3.mono bw2.out.size)
  clear cu2 bw2
  clear q1
  clear o_p3
  obtain rfl : L_b = P.length := by obtain ⟨a9, L9, c9, he, h1, h2⟩ := Mem.Own.form o_b3.out; injection he with _ he2 _; rw [bs_len] at h1 h2; omega
  obtain ⟨gb, rfl, hgb1, hgb2, curB, hcurB, _⟩ := Own.blockG o_b3.out (by omega)
  clear hcurB
  have hcap : P.length ≤ cap_b := by obtain ⟨a9, c9, he, h1, _⟩ := o_b3.out.sl; injection he with _ he2 he3; rw [bs_len] at h1; omega
  go_wp2_with fail
  refine (below_any w W3 (w.heap.size) _ xs 5 (by omega) (by omega) HSW.out hby hx bw3.out (Nat.le_refl _) cu3.out).mono ?_
  rintro e W4 ⟨y, rfl, hy0, hy5, d4⟩
  have z4 : W3.heap.size ≤ W4.heap.size := d4.apart.size
  have B4 : Hid (Below w.heap.size w W4) := B0.out.trans (d4.below.mono B0.out.size)
  have cu4 : Hid (Cur W4 (w.heap.size) (.slice aob (bs xs).length capb) xs.length) := d4.cur
  have bw4 : Hid (Below w.heap.size w W4) := d4.below
  have o_b4 : Hid (Own W4 (W2.heap.size) (W3.heap.size) 5 (.slice (some ⟨gb, 0, none⟩) P.length cap_b) (bs P)) := Own.drawn o_b3.out d4 (by omega) (by omega)
  clear o_b3
  clear cu3 bw3 d4
  by_cases y0 : y = 0
  · subst y0
    go_wp2_with fail
    refine (below_any w W4 (w.heap.size) _ xs (P.length : Int) (by omega) (by omega) HSW.out hby hx bw4.out (Nat.le_refl _) cu4.out).mono ?_
    rintro e W5 ⟨i, rfl, hi0, hi9, d5⟩
    have z5 : W4.heap.size ≤ W5.heap.size := d5.apart.size
    have B5 : Hid (Below w.heap.size w W5) := B0.out.trans (d5.below.mono B0.out.size)
    have cu5 : Hid (Cur W5 (w.heap.size) (.slice aob (bs xs).length capb) xs.length) := d5.cur
    have bw5 : Hid (Below w.heap.size w W5) := d5.below
    have o_b5 : Hid (Own W5 (W2.heap.size) (W3.heap.size) 5 (.slice (some ⟨gb, 0, none⟩) P.length cap_b) (bs P)) := Own.drawn o_b4.out d5 (by omega) (by omega)
    clear o_b4
    clear cu4 bw4 d5
    obtain ⟨d, rfl⟩ : ∃ d : Nat, i = (d : Int) := ⟨i.toNat, by omega⟩
    have hd9 : d < P.length := by omega
    obtain ⟨W6, HW6, b6, y6, hS6, r_li6⟩ : ∃ X, Hid ((W5.alloc (.cells #[.int .i64 0, .int .i64 1, .int .i64 2, .int .i64 3, .int .i64 128] 3)) = X) ∧ Below W5.heap.size W5 X ∧ W5.heap.size + 1 ≤ X.heap.size ∧ Hid (X.heap.size = W5.heap.size + 1) ∧ Hid (X.heap[W5.heap.size]? = some (.cells #[.int .i64 0, .int .i64 1, .int .i64 2, .int .i64 3, .int .i64 128] 3 (0, 0))) := ⟨_, rfl, ((Below.refl _ _).alloc (Nat.le_refl _) _), by simp, by show _ = _; simp, (by show _ = _; exact alloc_nth1_0 W5 _)⟩
    have z6 : W5.heap.size ≤ W6.heap.size := b6.size
    have B6 : Hid (Below w.heap.size w W6) := B5.out.trans (b6.mono B5.out.size)
    have o_b6 : Hid (Own W6 (W2.heap.size) (W3.heap.size) 5 (.slice (some ⟨gb, 0, none⟩) P.length cap_b) (bs P)) := Own.later o_b5.out b6 (by omega)
    have c_li6_0 : W6.cell? ⟨W5.heap.size, 0, none⟩ = some (.int .i64 0) := row_at r_li6.out 0
    have c_li6_1 : W6.cell? ⟨W5.heap.size, 1, none⟩ = some (.int .i64 1) := row_at r_li6.out 1
    have c_li6_2 : W6.cell? ⟨W5.heap.size, 2, none⟩ = some (.int .i64 2) := row_at r_li6.out 2
    have c_li6_3 : W6.cell? ⟨W5.heap.size, 3, none⟩ = some (.int .i64 3) := row_at r_li6.out 3
    have c_li6_4 : W6.cell? ⟨W5.heap.size, 4, none⟩ = some (.int .i64 128) := row_at r_li6.out 4
    clear o_b5
    have cu6 : Hid (Cur W6 (w.heap.size) (.slice aob (bs xs).length capb) xs.length) := cu5.out.keep b6
    have bw6 : Hid (Below w.heap.size w W6) := bw5.out.trans (b6.mono bw5.out.size)
    clear cu5 bw5
    go_wp2_with fail
    rw [HW6.out]
    refine (int_any w W6 (w.heap.size) _ xs (W5.heap.size) [0, 1, 2, 3, 128] r_li6.out (by omega) (by simp) (by simp) HSW.out hby hx bw6.out (Nat.le_refl _) cu6.out).mono ?_
    rintro e W7 ⟨j, rfl, hjm, d7⟩
    have z7 : W6.heap.size ≤ W7.heap.size := d7.apart.size
    have B7 : Hid (Below w.heap.size w W7) := B0.out.trans (d7.below.mono B0.out.size)
    have cu7 : Hid (Cur W7 (w.heap.size) (.slice aob (bs xs).length capb) xs.length) := d7.cur
    have bw7 : Hid (Below w.heap.size w W7) := d7.below
    have r_li7 : Hid (W7.heap[W5.heap.size]? = some (.cells #[.int .i64 0, .int .i64 1, .int .i64 2, .int .i64 3, .int .i64 128] 3 (0, 0))) := drawn_row r_li6.out d7 (by omega)
    have o_b7 : Hid (Own W7 (W2.heap.size) (W3.heap.size) 5 (.slice (some ⟨gb, 0, none⟩) P.length cap_b) (bs P)) := Own.drawn o_b6.out d7 (by omega) (by omega)
    have c_li7_0 : W7.cell? ⟨W5.heap.size, 0, none⟩ = some (.int .i64 0) := row_at r_li7.out 0
    have c_li7_1 : W7.cell? ⟨W5.heap.size, 1, none⟩ = some (.int .i64 1) := row_at r_li7.out 1
    have c_li7_2 : W7.cell? ⟨W5.heap.size, 2, none⟩ = some (.int .i64 2) := row_at r_li7.out 2
    have c_li7_3 : W7.cell? ⟨W5.heap.size, 3, none⟩ = some (.int .i64 3) := row_at r_li7.out 3
    have c_li7_4 : W7.cell? ⟨W5.heap.size, 4, none⟩ = some (.int .i64 128) := row_at r_li7.out 4
    clear r_li6 c_li6_0 c_li6_1 c_li6_2 c_li6_3 c_li6_4 o_b6
    clear cu6 bw6 d7
    clear r_li7 c_li7_0 c_li7_1 c_li7_2 c_li7_3 c_li7_4
    have hj : 0 ≤ j ∧ j ≤ 255 := by simp at hjm; omega
    have wu : IntKind.u8.wrap j = j := by simp at hjm; rcases hjm with rfl | rfl | rfl | rfl | rfl <;> rfl
    clear hjm
    clear cu7 bw7
    go_wp2_with (refine wpl_elemM rfl 5 _ _ rfl (k := d) o_b7.out (by rw [bs_len]; omega) (.int .u8 j) rfl rfl (by kernel_rfl) rfl ?_)
    intro W8 o_b8 g8
    have o_b8 : Own W8 (W2.heap.size) (W3.heap.size) 5 (.slice (some ⟨gb, 0, none⟩) P.length cap_b) (bs (P.set d j)) := by rw [show bs (P.set d j) = (bs P).set d (.int .u8 j) by simp [bs, List.map_set]]; exact o_b8
    have o_b8 : Hid (Own W8 (W2.heap.size) (W3.heap.size) 5 (.slice (some ⟨gb, 0, none⟩) P.length cap_b) (bs (P.set d j))) := o_b8
    have z8 : W7.heap.size ≤ W8.heap.size := g8.size
    have B8 : Hid (Below w.heap.size w W8) := belowGro B7.out g8 B7.out.size (Own.low o_b7.out (by have := B7.out.size; omega))
    clear o_b7
    clear g8
    have hsl : (P.set d j).length = P.length := List.length_set ..
    go_wp2
    go_ret
    exact ⟨some ⟨gb, 0, none⟩, cap_b, P.set d j, by rw [hsl]; rfl, set_byt HPB.out d hj, by omega, by rw [hsl]; exact o_b8.out.sl, B8.out⟩
  · have y0b : (y == 0) = false := by rw [beq_eq_false_iff_ne]; exact y0
    by_cases y1 : y = 1
    · subst y1
      go_wp2_with fail
      refine (below_any w W4 (w.heap.size) _ xs (P.length : Int) (by omega) (by omega) HSW.out hby hx bw4.out (Nat.le_refl _) cu4.out).mono ?_
      rintro e W5 ⟨i, rfl, hi0, hi9, d5⟩
      have z5 : W4.heap.size ≤ W5.heap.size := d5.apart.size
      have B5 : Hid (Below w.heap.size w W5) := B0.out.trans (d5.below.mono B0.out.size)
      have cu5 : Hid (Cur W5 (w.heap.size) (.slice aob (bs xs).length capb) xs.length) := d5.cur
      have bw5 : Hid (Below w.heap.size w W5) := d5.below
      have o_b5 : Hid (Own W5 (W2.heap.size) (W3.heap.size) 5 (.slice (some ⟨gb, 0, none⟩) P.length cap_b) (bs P)) := Own.drawn o_b4.out d5 (by omega) (by omega)
      clear o_b4
      clear cu4 bw4 d5
      obtain ⟨d, rfl⟩ : ∃ d : Nat, i = (d : Int) := ⟨i.toNat, by omega⟩
      have hd9 : d ≤ P.length := by omega
      have hdc : d ≤ cap_b := by omega
      have hdi : (d : Int) ≤ (cap_b : Int) := by omega
      clear cu5 bw5
      have htl : (P.take d).length = d := by rw [List.length_take]; omega
      have h9 := Sl.front o_b5.out.sl d (by rw [bs_len]; omega)
      have e9 : bs (P.take d) = (bs P).take d := by unfold bs; rw [List.map_take]
      rw [← e9] at h9
      have HS9 : Hid _ := h9
      clear h9 e9
      go_wp2
      go_ret
      exact ⟨some ⟨gb, 0, none⟩, cap_b, P.take d, by rw [htl]; rfl, fun z hz => HPB.out z (List.mem_of_mem_take hz), by omega, by rw [htl]; exact HS9.out, B5.out⟩
    · have y1b : (y == 1) = false := by rw [beq_eq_false_iff_ne]; exact y1
      by_cases y2 : y = 2
      · subst y2
        clear cu4 bw4
        obtain ⟨W5, HW5, b5, hS5, o_e5⟩ : ∃ X, Hid ((W4.alloc (.cells #[.int .u8 0] 5)) = X) ∧ Below W4.heap.size W4 X ∧ Hid (X.heap.size = W4.heap.size + 1) ∧ Hid (Own X W4.heap.size X.heap.size 5 (.slice (some ⟨W4.heap.size, 0, none⟩) 1 1) (bs [0])) := ⟨_, rfl, (Below.refl _ _).alloc (Nat.le_refl _) _, (by show _ = _; simp), lit1 W4 W4.heap.size 0 (Nat.le_refl _)⟩
        have z5 : W4.heap.size ≤ W5.heap.size := b5.size
        have B5 : Hid (Below w.heap.size w W5) := B4.out.trans (b5.mono B4.out.size)
        have o_b5 : Hid (Own W5 (W2.heap.size) (W3.heap.size) 5 (.slice (some ⟨gb, 0, none⟩) P.length cap_b) (bs P)) := Own.later o_b4.out b5 (by omega)
        clear o_b4
        have c6_6 : (bs P).length + (bs [0]).length ≤ maxLen := by rw [bs_len, bs_len]; unfold maxLen; (try simp only [List.length_nil]); (try simp only [List.length_cons, List.length_nil]); omega
        have c7_6 : ((bs P).length + (bs [0]).length) * 1 ≤ 140737488355328 := by rw [bs_len, bs_len]; (try simp only [List.length_nil]); (try simp only [List.length_cons, List.length_nil]); omega
        have sE6 : Hid (Sl W5 _ (bs [0])) := o_e5.out.sl
        go_wp2_with (at_builtin; (try rw [HW5.out]); go_must (refine wpl_app _ rfl (.tmp 34) (.tmp 35) 22 rfl 5 i5 (.int .u8 0) 1 Try.underlying22 hi5 hz5a hz5b hz5c rfl (W2.heap.size) _ (bs P) rfl (Own.mono o_b5.out (Nat.le_refl _) (by omega)) _ rfl (bs [0]) sE6.out (bs_one [0]) c6_6 c7_6 (by omega) ?_))
        intro v_z W6 o_z6 _ g6
        have o_z6 : Own W6 (W2.heap.size) W6.heap.size 5 v_z (bs (P ++ [0])) := by show Own _ _ _ _ _ _; rw [bs_app]; exact o_z6
        have o_z6h : Hid (Own W6 (W2.heap.size) W6.heap.size 5 v_z (bs (P ++ [0]))) := o_z6
        clear o_z6
        have o_z6 := o_z6h
        clear o_z6h
        obtain ⟨ao_z, L_z, cap_z, rfl, _, _⟩ := Mem.Own.form o_z6.out
        have z6 : W5.heap.size ≤ W6.heap.size := g6.size
        have B6 : Hid (Below w.heap.size w W6) := belowGro B5.out g6 B5.out.size (Own.low o_b5.out (by have := B5.out.size; omega))
        have o_e6 : Hid (Own W6 (W4.heap.size) (W5.heap.size) 5 (.slice (some ⟨W4.heap.size, 0, none⟩) 1 1) (bs [0])) := Own.gro o_e5.out g6 (Own.neFar o_b5.out o_e5.out (by omega))
        clear o_b5 o_e5
        clear g6 sE6 c6_6 c7_6
        clear o_e6
        obtain rfl : L_z = (P ++ [0]).length := by obtain ⟨a9, L9, c9, he, h1, h2⟩ := Mem.Own.form o_z6.out; injection he with _ he2 _; rw [bs_len] at h1 h2; omega
        have hpl : (P ++ [0]).length ≤ 500 := by simp; omega
        have HS9 : Hid (Sl W6 (.slice ao_z (P ++ [0]).length cap_z) (bs (P ++ [0]))) := o_z6.out.sl
        have HB9 : Hid (Byt (P ++ [0])) := Byt.app HPB.out (fun z hz => by simp at hz; omega)
        generalize P ++ [0] = P9 at *
        go_wp2
        go_ret
        exact ⟨ao_z, cap_z, P9, rfl, HB9.out, hpl, HS9.out, B6.out⟩
      · have y2b : (y == 2) = false := by rw [beq_eq_false_iff_ne]; exact y2
        clear cu4 bw4
        go_wp2
        go_ret
        exact ⟨some ⟨gb, 0, none⟩, cap_b, P, rfl, HPB.out, by omega, o_b4.out.sl, B4.out⟩

set_option maxRecDepth 1000000 in
set_option maxHeartbeats 16000000 in
theorem words13 (w : World) (v0 : Value) (xs0 : List Int) (h0 : Sl w v0 (bs xs0)) (y0 : Byt xs0) (m0 : xs0.length ≤ maxLen)
    (iPut : ∀ W, Below w.heap.size w W → ∀ (v' : Value) (m : Ms), Sl W v' (ss m.x) → m.x.length ≤ 1000 → (∀ s ∈ m.x, s.size ≤ 1000) → m.h.r.size ≤ 1000 → Calls Try.prog 9 #[.agg #[.int .i64 m.k, .int .i64 m.f, .int .i64 m.t, .int .i64 m.h.n, .string m.h.r, .int .i64 m.n, v']] W fun e w' => ∃ u, e = .returned u ∧ Own w' W.heap.size w'.heap.size 5 u (bs (putM m)) ∧ Below W.heap.size W w')
    (iGet : ∀ W, Below w.heap.size w W → ∀ (v' : Value) (b : List Int), Sl W v' (bs b) → Byt b → b.length ≤ 100000 → Calls Try.prog 11 #[v'] W fun e w' => GotM b W e w')
    (iOk : ∀ W, Below w.heap.size w W → ∀ (v' : Value) (m : Ms), Sl W v' (ss m.x) → m.x.length ≤ 1000 → (∀ s ∈ m.x, s.size ≤ 1000) → m.h.r.size ≤ 1000 → Calls Try.prog 14 #[.agg #[.int .i64 m.k, .int .i64 m.f, .int .i64 m.t, .int .i64 m.h.n, .string m.h.r, .int .i64 m.n, v']] W fun e w' => e = .returned (.bool (msgOk m)) ∧ Below W.heap.size W w') :
    Calls Try.prog 3 #[v0] w fun e w' => e = .returned (.bool true) ∧ Below w.heap.size w w' := by
  have hs := h0
  have hby := y0
  obtain ⟨ao0, cap0, rfl, -, -, -⟩ := h0
  rw [Mem.bs_len] at hs ⊢
  clear m0 y0
  by_cases hbig : 1048576 < xs0.length
  · have qb := big_yes w ao0 xs0.length cap0 hbig
    clear iPut iGet iOk
    go_enter Try.func3, Try.ntmps3
    go_wp2_with fail
    refine qb.mono ?_
    rintro e w1 ⟨rfl, hw1⟩
    subst hw1
    go_wp2
    go_ret
    exact ⟨rfl, Below.refl _ _⟩
  have qb := big_no w ao0 xs0.length cap0 hbig
  have HS : Hid (Sl w (.slice ao0 xs0.length cap0) (bs xs0)) := hs
  have qd : ∀ W, Below w.heap.size w W → _ := fun W hW => drawPut13 W _ xs0 (hs.later hW) hby (by omega)
  have qe : ∀ W, Below w.heap.size w W → _ := fun W hW => drawGet13 W _ xs0 (hs.later hW) hby (by omega)
  clear hbig hs hby
  have B0 : Hid (Below w.heap.size w w) := Below.refl _ _
  go_enter Try.func3, Try.ntmps3
  go_wp2_with fail
  refine qb.mono ?_
  rintro e W_ ⟨rfl, hW_⟩
  subst hW_
  clear qb
  go_wp2_with fail
  refine (qd w B0.out).mono ?_
  rintro e W1 ⟨m, v_p, rfl, hD, o_p1, b1⟩
  obtain ⟨ao_p, L_p, cap_p, rfl, hL_p, hM_p⟩ := o_p1.form
  have o_p1 : Hid (Own W1 w.heap.size W1.heap.size 9 (.slice ao_p L_p cap_p) (ss m.x)) := o_p1
  clear hL_p hM_p
  have z1 : w.heap.size ≤ W1.heap.size := b1.size
  have B1 : Hid (Below w.heap.size w W1) := B0.out.trans (b1.mono B0.out.size)
  obtain ⟨W2, HW2, b2, y2, hS2, r_m2⟩ : ∃ X, Hid ((W1.alloc (.cells #[.int .i64 m.k, .int .i64 m.f, .int .i64 m.t, .int .i64 m.h.n, .string m.h.r, .int .i64 m.n, .slice ao_p L_p cap_p] 28)) = X) ∧ Below W1.heap.size W1 X ∧ W1.heap.size + 1 ≤ X.heap.size ∧ Hid (X.heap.size = W1.heap.size + 1) ∧ Hid (X.heap[W1.heap.size]? = some (.cells #[.int .i64 m.k, .int .i64 m.f, .int .i64 m.t, .int .i64 m.h.n, .string m.h.r, .int .i64 m.n, .slice ao_p L_p cap_p] 28 (0, 0))) := ⟨_, rfl, ((Below.refl _ _).alloc (Nat.le_refl _) _), by simp, by show _ = _; simp, (by show _ = _; exact alloc_nth1_0 W1 _)⟩
  have z2 : W1.heap.size ≤ W2.heap.size := b2.size
  have B2 : Hid (Below w.heap.size w W2) := B1.out.trans (b2.mono B1.out.size)
  have o_p2 : Hid (Own W2 (w.heap.size) (W1.heap.size) 9 (.slice ao_p L_p cap_p) (ss m.x)) := Own.later o_p1.out b2 (by omega)
  have c_m2_0 : W2.cell? ⟨W1.heap.size, 0, none⟩ = some (.int .i64 m.k) := row_at r_m2.out 0
  have c_m2_1 : W2.cell? ⟨W1.heap.size, 1, none⟩ = some (.int .i64 m.f) := row_at r_m2.out 1
  have c_m2_2 : W2.cell? ⟨W1.heap.size, 2, none⟩ = some (.int .i64 m.t) := row_at r_m2.out 2
  have c_m2_3 : W2.cell? ⟨W1.heap.size, 3, none⟩ = some (.int .i64 m.h.n) := row_at r_m2.out 3
  have c_m2_4 : W2.cell? ⟨W1.heap.size, 4, none⟩ = some (.string m.h.r) := row_at r_m2.out 4
  have c_m2_5 : W2.cell? ⟨W1.heap.size, 5, none⟩ = some (.int .i64 m.n) := row_at r_m2.out 5
  have c_m2_6 : W2.cell? ⟨W1.heap.size, 6, none⟩ = some (.slice ao_p L_p cap_p) := row_at r_m2.out 6
  clear o_p1
  have hln := hD.len
  have hhd := hD.hd
  have hsz : ∀ s ∈ m.x, s.size ≤ 1000 := fun s h => Nat.le_trans (hD.sz s h) (by omega)
  have HSZ : Hid (∀ s ∈ m.x, s.size ≤ 1000) := hsz
  have hbs := bytes_small hD (by omega)
  clear hD hsz
  have qp : ∀ W v1, Below w.heap.size w W → Sl W v1 (ss m.x) → _ := fun W v1 hW h1 => iPut W hW v1 m h1 (by omega) HSZ.out (by omega)
  obtain ⟨P, hP⟩ : ∃ P, putM m = P := ⟨_, rfl⟩
  simp only [hP] at qp
  have HP : Hid (putM m = P) := hP
  clear hP
  go_wp2_with fail
  rw [HW2.out]
  refine (qp W2 _ B2.out o_p2.out.sl).mono ?_
  rintro e W3 ⟨v_b, rfl, o_b3, b3⟩
  obtain ⟨ao_b, L_b, cap_b, rfl, hL_b, hM_b⟩ := o_b3.form
  have o_b3 : Hid (Own W3 W2.heap.size W3.heap.size 5 (.slice ao_b L_b cap_b) (bs P)) := o_b3
  clear hL_b hM_b
  have z3 : W2.heap.size ≤ W3.heap.size := b3.size
  have B3 : Hid (Below w.heap.size w W3) := B2.out.trans (b3.mono B2.out.size)
  have r_m3 : Hid (W3.heap[W1.heap.size]? = some (.cells #[.int .i64 m.k, .int .i64 m.f, .int .i64 m.t, .int .i64 m.h.n, .string m.h.r, .int .i64 m.n, .slice ao_p L_p cap_p] 28 (0, 0))) := rowKeep r_m2.out b3
  have o_p3 : Hid (Own W3 (w.heap.size) (W1.heap.size) 9 (.slice ao_p L_p cap_p) (ss m.x)) := Own.later o_p2.out b3 (by omega)
  have c_m3_0 : W3.cell? ⟨W1.heap.size, 0, none⟩ = some (.int .i64 m.k) := row_at r_m3.out 0
  have c_m3_1 : W3.cell? ⟨W1.heap.size, 1, none⟩ = some (.int .i64 m.f) := row_at r_m3.out 1
  have c_m3_2 : W3.cell? ⟨W1.heap.size, 2, none⟩ = some (.int .i64 m.t) := row_at r_m3.out 2
  have c_m3_3 : W3.cell? ⟨W1.heap.size, 3, none⟩ = some (.int .i64 m.h.n) := row_at r_m3.out 3
  have c_m3_4 : W3.cell? ⟨W1.heap.size, 4, none⟩ = some (.string m.h.r) := row_at r_m3.out 4
  have c_m3_5 : W3.cell? ⟨W1.heap.size, 5, none⟩ = some (.int .i64 m.n) := row_at r_m3.out 5
  have c_m3_6 : W3.cell? ⟨W1.heap.size, 6, none⟩ = some (.slice ao_p L_p cap_p) := row_at r_m3.out 6
  clear r_m2 c_m2_0 c_m2_1 c_m2_2 c_m2_3 c_m2_4 c_m2_5 c_m2_6 o_p2
  clear qp
  obtain rfl : L_b = P.length := by obtain ⟨a9, L9, c9, he, h1, h2⟩ := Mem.Own.form o_b3.out; injection he with _ he2 _; rw [bs_len] at h1 h2; omega
  go_wp2_with fail
  refine (qe W3 B3.out).mono ?_
  rintro e W4 ⟨ao_c, cap_c, cb, rfl, hcB, hcl, sC, b4⟩
  have z4 : W3.heap.size ≤ W4.heap.size := b4.size
  have B4 : Hid (Below w.heap.size w W4) := B3.out.trans (b4.mono B3.out.size)
  have r_m4 : Hid (W4.heap[W1.heap.size]? = some (.cells #[.int .i64 m.k, .int .i64 m.f, .int .i64 m.t, .int .i64 m.h.n, .string m.h.r, .int .i64 m.n, .slice ao_p L_p cap_p] 28 (0, 0))) := rowKeep r_m3.out b4
  have o_p4 : Hid (Own W4 (w.heap.size) (W1.heap.size) 9 (.slice ao_p L_p cap_p) (ss m.x)) := Own.later o_p3.out b4 (by omega)
  have o_b4 : Hid (Own W4 (W2.heap.size) (W3.heap.size) 5 (.slice ao_b P.length cap_b) (bs P)) := Own.later o_b3.out b4 (by omega)
  have c_m4_0 : W4.cell? ⟨W1.heap.size, 0, none⟩ = some (.int .i64 m.k) := row_at r_m4.out 0
  have c_m4_1 : W4.cell? ⟨W1.heap.size, 1, none⟩ = some (.int .i64 m.f) := row_at r_m4.out 1
  have c_m4_2 : W4.cell? ⟨W1.heap.size, 2, none⟩ = some (.int .i64 m.t) := row_at r_m4.out 2
  have c_m4_3 : W4.cell? ⟨W1.heap.size, 3, none⟩ = some (.int .i64 m.h.n) := row_at r_m4.out 3
  have c_m4_4 : W4.cell? ⟨W1.heap.size, 4, none⟩ = some (.string m.h.r) := row_at r_m4.out 4
  have c_m4_5 : W4.cell? ⟨W1.heap.size, 5, none⟩ = some (.int .i64 m.n) := row_at r_m4.out 5
  have c_m4_6 : W4.cell? ⟨W1.heap.size, 6, none⟩ = some (.slice ao_p L_p cap_p) := row_at r_m4.out 6
  clear r_m3 c_m3_0 c_m3_1 c_m3_2 c_m3_3 c_m3_4 c_m3_5 c_m3_6 o_p3 o_b3
  have f_c4 : Hid (Sl W4 (.slice ao_c cb.length cap_c) (bs cb)) := sC
  have HCB : Hid (Byt cb) := hcB
  clear sC hcB qd qe
  have qg : ∀ W v1, Below w.heap.size w W → Sl W v1 (bs cb) → _ := fun W v1 hW h1 => iGet W hW v1 cb h1 HCB.out (by omega)
  have qs : ∀ W v1, Sl W v1 (bs cb) → _ := fun W v1 h1 => getm_spec W v1 cb h1 HCB.out (by omega)
  have hgl := getM_len cb
  obtain ⟨y, is, hg⟩ : ∃ m ok, getM cb = (m, ok) := ⟨_, _, rfl⟩
  unfold GotM at qg qs
  simp only [hg] at qg qs hgl
  have HGE : Hid (is = true → putM y = cb ∧ (∀ s ∈ y.x, s.size ≤ 1000) ∧ y.h.r.size ≤ 1000) := by
    intro e9
    rw [e9] at hg
    obtain ⟨h1, h2⟩ := put_getM HCB.out hg
    refine ⟨by unfold putM; rw [if_pos h2]; exact h1.symm, fun s hs9 => ?_, ?_⟩
    · have := size_bytes hs9
      rw [← h1] at this
      omega
    · have := (okH_parts13 (msg_parts h2).2.2.2.1).2.2
      omega
  clear hg
  go_wp2_with fail
  refine (qg W4 _ B4.out f_c4.out).mono ?_
  rintro e W5 ⟨v_y, rfl, o_y5, b5⟩
  obtain ⟨ao_y, L_y, cap_y, rfl, hL_y, hM_y⟩ := o_y5.form
  have o_y5 : Hid (Own W5 W4.heap.size W5.heap.size 9 (.slice ao_y L_y cap_y) (ss y.x)) := o_y5
  clear hL_y hM_y
  have z5 : W4.heap.size ≤ W5.heap.size := b5.size
  have B5 : Hid (Below w.heap.size w W5) := B4.out.trans (b5.mono B4.out.size)
  have r_m5 : Hid (W5.heap[W1.heap.size]? = some (.cells #[.int .i64 m.k, .int .i64 m.f, .int .i64 m.t, .int .i64 m.h.n, .string m.h.r, .int .i64 m.n, .slice ao_p L_p cap_p] 28 (0, 0))) := rowKeep r_m4.out b5
  have o_p5 : Hid (Own W5 (w.heap.size) (W1.heap.size) 9 (.slice ao_p L_p cap_p) (ss m.x)) := Own.later o_p4.out b5 (by omega)
  have o_b5 : Hid (Own W5 (W2.heap.size) (W3.heap.size) 5 (.slice ao_b P.length cap_b) (bs P)) := Own.later o_b4.out b5 (by omega)
  have c_m5_0 : W5.cell? ⟨W1.heap.size, 0, none⟩ = some (.int .i64 m.k) := row_at r_m5.out 0
  have c_m5_1 : W5.cell? ⟨W1.heap.size, 1, none⟩ = some (.int .i64 m.f) := row_at r_m5.out 1
  have c_m5_2 : W5.cell? ⟨W1.heap.size, 2, none⟩ = some (.int .i64 m.t) := row_at r_m5.out 2
  have c_m5_3 : W5.cell? ⟨W1.heap.size, 3, none⟩ = some (.int .i64 m.h.n) := row_at r_m5.out 3
  have c_m5_4 : W5.cell? ⟨W1.heap.size, 4, none⟩ = some (.string m.h.r) := row_at r_m5.out 4
  have c_m5_5 : W5.cell? ⟨W1.heap.size, 5, none⟩ = some (.int .i64 m.n) := row_at r_m5.out 5
  have c_m5_6 : W5.cell? ⟨W1.heap.size, 6, none⟩ = some (.slice ao_p L_p cap_p) := row_at r_m5.out 6
  clear r_m4 c_m4_0 c_m4_1 c_m4_2 c_m4_3 c_m4_4 c_m4_5 c_m4_6 o_p4 o_b4
  have f_c5 : Hid (Sl W5 (.slice ao_c cb.length cap_c) (bs cb)) := Sl.later f_c4.out b5
  clear f_c4
  have a_m5_0 : ∀ o, (W5.alloc o).cell? ⟨W1.heap.size, 0, none⟩ = some (.int .i64 m.k) := fun o => keepR c_m5_0 ((Below.refl _ _).alloc (Nat.le_refl _) o)
  have a_m5_1 : ∀ o, (W5.alloc o).cell? ⟨W1.heap.size, 1, none⟩ = some (.int .i64 m.f) := fun o => keepR c_m5_1 ((Below.refl _ _).alloc (Nat.le_refl _) o)
  have a_m5_2 : ∀ o, (W5.alloc o).cell? ⟨W1.heap.size, 2, none⟩ = some (.int .i64 m.t) := fun o => keepR c_m5_2 ((Below.refl _ _).alloc (Nat.le_refl _) o)
  have a_m5_3 : ∀ o, (W5.alloc o).cell? ⟨W1.heap.size, 3, none⟩ = some (.int .i64 m.h.n) := fun o => keepR c_m5_3 ((Below.refl _ _).alloc (Nat.le_refl _) o)
  have a_m5_4 : ∀ o, (W5.alloc o).cell? ⟨W1.heap.size, 4, none⟩ = some (.string m.h.r) := fun o => keepR c_m5_4 ((Below.refl _ _).alloc (Nat.le_refl _) o)
  have a_m5_5 : ∀ o, (W5.alloc o).cell? ⟨W1.heap.size, 5, none⟩ = some (.int .i64 m.n) := fun o => keepR c_m5_5 ((Below.refl _ _).alloc (Nat.le_refl _) o)
  have a_m5_6 : ∀ o, (W5.alloc o).cell? ⟨W1.heap.size, 6, none⟩ = some (.slice ao_p L_p cap_p) := fun o => keepR c_m5_6 ((Below.refl _ _).alloc (Nat.le_refl _) o)
  obtain ⟨W6, HW6, b6, y6, hS6, r_y6⟩ : ∃ X, Hid ((W5.alloc (.cells #[.int .i64 y.k, .int .i64 y.f, .int .i64 y.t, .int .i64 y.h.n, .string y.h.r, .int .i64 y.n, .slice ao_y L_y cap_y] 28)) = X) ∧ Below W5.heap.size W5 X ∧ W5.heap.size + 1 ≤ X.heap.size ∧ Hid (X.heap.size = W5.heap.size + 1) ∧ Hid (X.heap[W5.heap.size]? = some (.cells #[.int .i64 y.k, .int .i64 y.f, .int .i64 y.t, .int .i64 y.h.n, .string y.h.r, .int .i64 y.n, .slice ao_y L_y cap_y] 28 (0, 0))) := ⟨_, rfl, ((Below.refl _ _).alloc (Nat.le_refl _) _), by simp, by show _ = _; simp, (by show _ = _; exact alloc_nth1_0 W5 _)⟩
  have z6 : W5.heap.size ≤ W6.heap.size := b6.size
  have B6 : Hid (Below w.heap.size w W6) := B5.out.trans (b6.mono B5.out.size)
  have r_m6 : Hid (W6.heap[W1.heap.size]? = some (.cells #[.int .i64 m.k, .int .i64 m.f, .int .i64 m.t, .int .i64 m.h.n, .string m.h.r, .int .i64 m.n, .slice ao_p L_p cap_p] 28 (0, 0))) := rowKeep r_m5.out b6
  have o_p6 : Hid (Own W6 (w.heap.size) (W1.heap.size) 9 (.slice ao_p L_p cap_p) (ss m.x)) := Own.later o_p5.out b6 (by omega)
  have o_b6 : Hid (Own W6 (W2.heap.size) (W3.heap.size) 5 (.slice ao_b P.length cap_b) (bs P)) := Own.later o_b5.out b6 (by omega)
  have o_y6 : Hid (Own W6 (W4.heap.size) (W5.heap.size) 9 (.slice ao_y L_y cap_y) (ss y.x)) := Own.later o_y5.out b6 (by omega)
  have c_m6_0 : W6.cell? ⟨W1.heap.size, 0, none⟩ = some (.int .i64 m.k) := row_at r_m6.out 0
  have c_m6_1 : W6.cell? ⟨W1.heap.size, 1, none⟩ = some (.int .i64 m.f) := row_at r_m6.out 1
  have c_m6_2 : W6.cell? ⟨W1.heap.size, 2, none⟩ = some (.int .i64 m.t) := row_at r_m6.out 2
  have c_m6_3 : W6.cell? ⟨W1.heap.size, 3, none⟩ = some (.int .i64 m.h.n) := row_at r_m6.out 3
  have c_m6_4 : W6.cell? ⟨W1.heap.size, 4, none⟩ = some (.string m.h.r) := row_at r_m6.out 4
  have c_m6_5 : W6.cell? ⟨W1.heap.size, 5, none⟩ = some (.int .i64 m.n) := row_at r_m6.out 5
  have c_m6_6 : W6.cell? ⟨W1.heap.size, 6, none⟩ = some (.slice ao_p L_p cap_p) := row_at r_m6.out 6
  have c_y6_0 : W6.cell? ⟨W5.heap.size, 0, none⟩ = some (.int .i64 y.k) := row_at r_y6.out 0
  have c_y6_1 : W6.cell? ⟨W5.heap.size, 1, none⟩ = some (.int .i64 y.f) := row_at r_y6.out 1
  have c_y6_2 : W6.cell? ⟨W5.heap.size, 2, none⟩ = some (.int .i64 y.t) := row_at r_y6.out 2
  have c_y6_3 : W6.cell? ⟨W5.heap.size, 3, none⟩ = some (.int .i64 y.h.n) := row_at r_y6.out 3
  have c_y6_4 : W6.cell? ⟨W5.heap.size, 4, none⟩ = some (.string y.h.r) := row_at r_y6.out 4
  have c_y6_5 : W6.cell? ⟨W5.heap.size, 5, none⟩ = some (.int .i64 y.n) := row_at r_y6.out 5
  have c_y6_6 : W6.cell? ⟨W5.heap.size, 6, none⟩ = some (.slice ao_y L_y cap_y) := row_at r_y6.out 6
  clear r_m5 c_m5_0 c_m5_1 c_m5_2 c_m5_3 c_m5_4 c_m5_5 c_m5_6 o_p5 o_b5 o_y5
  have f_c6 : Hid (Sl W6 (.slice ao_c cb.length cap_c) (bs cb)) := Sl.later f_c5.out b6
  clear f_c5
  go_wp2_with fail
  rw [HW6.out]
  clear a_m5_0 a_m5_1 a_m5_2 a_m5_3 a_m5_4 a_m5_5 a_m5_6
  refine (qs W6 _ f_c6.out).mono ?_
  rintro e W7 ⟨v_z, rfl, o_z7, b7⟩
  obtain ⟨ao_z, L_z, cap_z, rfl, hL_z, hM_z⟩ := o_z7.form
  have o_z7 : Hid (Own W7 W6.heap.size W7.heap.size 9 (.slice ao_z L_z cap_z) (ss y.x)) := o_z7
  clear hL_z hM_z
  have z7 : W6.heap.size ≤ W7.heap.size := b7.size
  have B7 : Hid (Below w.heap.size w W7) := B6.out.trans (b7.mono B6.out.size)
  have r_m7 : Hid (W7.heap[W1.heap.size]? = some (.cells #[.int .i64 m.k, .int .i64 m.f, .int .i64 m.t, .int .i64 m.h.n, .string m.h.r, .int .i64 m.n, .slice ao_p L_p cap_p] 28 (0, 0))) := rowKeep r_m6.out b7
  have r_y7 : Hid (W7.heap[W5.heap.size]? = some (.cells #[.int .i64 y.k, .int .i64 y.f, .int .i64 y.t, .int .i64 y.h.n, .string y.h.r, .int .i64 y.n, .slice ao_y L_y cap_y] 28 (0, 0))) := rowKeep r_y6.out b7
  have o_p7 : Hid (Own W7 (w.heap.size) (W1.heap.size) 9 (.slice ao_p L_p cap_p) (ss m.x)) := Own.later o_p6.out b7 (by omega)
  have o_b7 : Hid (Own W7 (W2.heap.size) (W3.heap.size) 5 (.slice ao_b P.length cap_b) (bs P)) := Own.later o_b6.out b7 (by omega)
  have o_y7 : Hid (Own W7 (W4.heap.size) (W5.heap.size) 9 (.slice ao_y L_y cap_y) (ss y.x)) := Own.later o_y6.out b7 (by omega)
  have c_m7_0 : W7.cell? ⟨W1.heap.size, 0, none⟩ = some (.int .i64 m.k) := row_at r_m7.out 0
  have c_m7_1 : W7.cell? ⟨W1.heap.size, 1, none⟩ = some (.int .i64 m.f) := row_at r_m7.out 1
  have c_m7_2 : W7.cell? ⟨W1.heap.size, 2, none⟩ = some (.int .i64 m.t) := row_at r_m7.out 2
  have c_m7_3 : W7.cell? ⟨W1.heap.size, 3, none⟩ = some (.int .i64 m.h.n) := row_at r_m7.out 3
  have c_m7_4 : W7.cell? ⟨W1.heap.size, 4, none⟩ = some (.string m.h.r) := row_at r_m7.out 4
  have c_m7_5 : W7.cell? ⟨W1.heap.size, 5, none⟩ = some (.int .i64 m.n) := row_at r_m7.out 5
  have c_m7_6 : W7.cell? ⟨W1.heap.size, 6, none⟩ = some (.slice ao_p L_p cap_p) := row_at r_m7.out 6
  have c_y7_0 : W7.cell? ⟨W5.heap.size, 0, none⟩ = some (.int .i64 y.k) := row_at r_y7.out 0
  have c_y7_1 : W7.cell? ⟨W5.heap.size, 1, none⟩ = some (.int .i64 y.f) := row_at r_y7.out 1
  have c_y7_2 : W7.cell? ⟨W5.heap.size, 2, none⟩ = some (.int .i64 y.t) := row_at r_y7.out 2
  have c_y7_3 : W7.cell? ⟨W5.heap.size, 3, none⟩ = some (.int .i64 y.h.n) := row_at r_y7.out 3
  have c_y7_4 : W7.cell? ⟨W5.heap.size, 4, none⟩ = some (.string y.h.r) := row_at r_y7.out 4
  have c_y7_5 : W7.cell? ⟨W5.heap.size, 5, none⟩ = some (.int .i64 y.n) := row_at r_y7.out 5
  have c_y7_6 : W7.cell? ⟨W5.heap.size, 6, none⟩ = some (.slice ao_y L_y cap_y) := row_at r_y7.out 6
  clear r_m6 c_m6_0 c_m6_1 c_m6_2 c_m6_3 c_m6_4 c_m6_5 c_m6_6 r_y6 c_y6_0 c_y6_1 c_y6_2 c_y6_3 c_y6_4 c_y6_5 c_y6_6 o_p6 o_b6 o_y6
  have f_c7 : Hid (Sl W7 (.slice ao_c cb.length cap_c) (bs cb)) := Sl.later f_c6.out b7
  clear f_c6
  have a_m7_0 : ∀ o, (W7.alloc o).cell? ⟨W1.heap.size, 0, none⟩ = some (.int .i64 m.k) := fun o => keepR c_m7_0 ((Below.refl _ _).alloc (Nat.le_refl _) o)
  have a_m7_1 : ∀ o, (W7.alloc o).cell? ⟨W1.heap.size, 1, none⟩ = some (.int .i64 m.f) := fun o => keepR c_m7_1 ((Below.refl _ _).alloc (Nat.le_refl _) o)
  have a_m7_2 : ∀ o, (W7.alloc o).cell? ⟨W1.heap.size, 2, none⟩ = some (.int .i64 m.t) := fun o => keepR c_m7_2 ((Below.refl _ _).alloc (Nat.le_refl _) o)
  have a_m7_3 : ∀ o, (W7.alloc o).cell? ⟨W1.heap.size, 3, none⟩ = some (.int .i64 m.h.n) := fun o => keepR c_m7_3 ((Below.refl _ _).alloc (Nat.le_refl _) o)
  have a_m7_4 : ∀ o, (W7.alloc o).cell? ⟨W1.heap.size, 4, none⟩ = some (.string m.h.r) := fun o => keepR c_m7_4 ((Below.refl _ _).alloc (Nat.le_refl _) o)
  have a_m7_5 : ∀ o, (W7.alloc o).cell? ⟨W1.heap.size, 5, none⟩ = some (.int .i64 m.n) := fun o => keepR c_m7_5 ((Below.refl _ _).alloc (Nat.le_refl _) o)
  have a_m7_6 : ∀ o, (W7.alloc o).cell? ⟨W1.heap.size, 6, none⟩ = some (.slice ao_p L_p cap_p) := fun o => keepR c_m7_6 ((Below.refl _ _).alloc (Nat.le_refl _) o)
  have a_y7_0 : ∀ o, (W7.alloc o).cell? ⟨W5.heap.size, 0, none⟩ = some (.int .i64 y.k) := fun o => keepR c_y7_0 ((Below.refl _ _).alloc (Nat.le_refl _) o)
  have a_y7_1 : ∀ o, (W7.alloc o).cell? ⟨W5.heap.size, 1, none⟩ = some (.int .i64 y.f) := fun o => keepR c_y7_1 ((Below.refl _ _).alloc (Nat.le_refl _) o)
  have a_y7_2 : ∀ o, (W7.alloc o).cell? ⟨W5.heap.size, 2, none⟩ = some (.int .i64 y.t) := fun o => keepR c_y7_2 ((Below.refl _ _).alloc (Nat.le_refl _) o)
  have a_y7_3 : ∀ o, (W7.alloc o).cell? ⟨W5.heap.size, 3, none⟩ = some (.int .i64 y.h.n) := fun o => keepR c_y7_3 ((Below.refl _ _).alloc (Nat.le_refl _) o)
  have a_y7_4 : ∀ o, (W7.alloc o).cell? ⟨W5.heap.size, 4, none⟩ = some (.string y.h.r) := fun o => keepR c_y7_4 ((Below.refl _ _).alloc (Nat.le_refl _) o)
  have a_y7_5 : ∀ o, (W7.alloc o).cell? ⟨W5.heap.size, 5, none⟩ = some (.int .i64 y.n) := fun o => keepR c_y7_5 ((Below.refl _ _).alloc (Nat.le_refl _) o)
  have a_y7_6 : ∀ o, (W7.alloc o).cell? ⟨W5.heap.size, 6, none⟩ = some (.slice ao_y L_y cap_y) := fun o => keepR c_y7_6 ((Below.refl _ _).alloc (Nat.le_refl _) o)
  obtain ⟨W8, HW8, b8, y8, hS8, r_z8⟩ : ∃ X, Hid ((W7.alloc (.cells #[.int .i64 y.k, .int .i64 y.f, .int .i64 y.t, .int .i64 y.h.n, .string y.h.r, .int .i64 y.n, .slice ao_z L_z cap_z] 28)) = X) ∧ Below W7.heap.size W7 X ∧ W7.heap.size + 1 ≤ X.heap.size ∧ Hid (X.heap.size = W7.heap.size + 1) ∧ Hid (X.heap[W7.heap.size]? = some (.cells #[.int .i64 y.k, .int .i64 y.f, .int .i64 y.t, .int .i64 y.h.n, .string y.h.r, .int .i64 y.n, .slice ao_z L_z cap_z] 28 (0, 0))) := ⟨_, rfl, ((Below.refl _ _).alloc (Nat.le_refl _) _), by simp, by show _ = _; simp, (by show _ = _; exact alloc_nth1_0 W7 _)⟩
  have z8 : W7.heap.size ≤ W8.heap.size := b8.size
  have B8 : Hid (Below w.heap.size w W8) := B7.out.trans (b8.mono B7.out.size)
  have r_m8 : Hid (W8.heap[W1.heap.size]? = some (.cells #[.int .i64 m.k, .int .i64 m.f, .int .i64 m.t, .int .i64 m.h.n, .string m.h.r, .int .i64 m.n, .slice ao_p L_p cap_p] 28 (0, 0))) := rowKeep r_m7.out b8
  have r_y8 : Hid (W8.heap[W5.heap.size]? = some (.cells #[.int .i64 y.k, .int .i64 y.f, .int .i64 y.t, .int .i64 y.h.n, .string y.h.r, .int .i64 y.n, .slice ao_y L_y cap_y] 28 (0, 0))) := rowKeep r_y7.out b8
  have o_p8 : Hid (Own W8 (w.heap.size) (W1.heap.size) 9 (.slice ao_p L_p cap_p) (ss m.x)) := Own.later o_p7.out b8 (by omega)
  have o_b8 : Hid (Own W8 (W2.heap.size) (W3.heap.size) 5 (.slice ao_b P.length cap_b) (bs P)) := Own.later o_b7.out b8 (by omega)
  have o_y8 : Hid (Own W8 (W4.heap.size) (W5.heap.size) 9 (.slice ao_y L_y cap_y) (ss y.x)) := Own.later o_y7.out b8 (by omega)
  have o_z8 : Hid (Own W8 (W6.heap.size) (W7.heap.size) 9 (.slice ao_z L_z cap_z) (ss y.x)) := Own.later o_z7.out b8 (by omega)
  have c_m8_0 : W8.cell? ⟨W1.heap.size, 0, none⟩ = some (.int .i64 m.k) := row_at r_m8.out 0
  have c_m8_1 : W8.cell? ⟨W1.heap.size, 1, none⟩ = some (.int .i64 m.f) := row_at r_m8.out 1
  have c_m8_2 : W8.cell? ⟨W1.heap.size, 2, none⟩ = some (.int .i64 m.t) := row_at r_m8.out 2
  have c_m8_3 : W8.cell? ⟨W1.heap.size, 3, none⟩ = some (.int .i64 m.h.n) := row_at r_m8.out 3
  have c_m8_4 : W8.cell? ⟨W1.heap.size, 4, none⟩ = some (.string m.h.r) := row_at r_m8.out 4
  have c_m8_5 : W8.cell? ⟨W1.heap.size, 5, none⟩ = some (.int .i64 m.n) := row_at r_m8.out 5
  have c_m8_6 : W8.cell? ⟨W1.heap.size, 6, none⟩ = some (.slice ao_p L_p cap_p) := row_at r_m8.out 6
  have c_y8_0 : W8.cell? ⟨W5.heap.size, 0, none⟩ = some (.int .i64 y.k) := row_at r_y8.out 0
  have c_y8_1 : W8.cell? ⟨W5.heap.size, 1, none⟩ = some (.int .i64 y.f) := row_at r_y8.out 1
  have c_y8_2 : W8.cell? ⟨W5.heap.size, 2, none⟩ = some (.int .i64 y.t) := row_at r_y8.out 2
  have c_y8_3 : W8.cell? ⟨W5.heap.size, 3, none⟩ = some (.int .i64 y.h.n) := row_at r_y8.out 3
  have c_y8_4 : W8.cell? ⟨W5.heap.size, 4, none⟩ = some (.string y.h.r) := row_at r_y8.out 4
  have c_y8_5 : W8.cell? ⟨W5.heap.size, 5, none⟩ = some (.int .i64 y.n) := row_at r_y8.out 5
  have c_y8_6 : W8.cell? ⟨W5.heap.size, 6, none⟩ = some (.slice ao_y L_y cap_y) := row_at r_y8.out 6
  have c_z8_0 : W8.cell? ⟨W7.heap.size, 0, none⟩ = some (.int .i64 y.k) := row_at r_z8.out 0
  have c_z8_1 : W8.cell? ⟨W7.heap.size, 1, none⟩ = some (.int .i64 y.f) := row_at r_z8.out 1
  have c_z8_2 : W8.cell? ⟨W7.heap.size, 2, none⟩ = some (.int .i64 y.t) := row_at r_z8.out 2
  have c_z8_3 : W8.cell? ⟨W7.heap.size, 3, none⟩ = some (.int .i64 y.h.n) := row_at r_z8.out 3
  have c_z8_4 : W8.cell? ⟨W7.heap.size, 4, none⟩ = some (.string y.h.r) := row_at r_z8.out 4
  have c_z8_5 : W8.cell? ⟨W7.heap.size, 5, none⟩ = some (.int .i64 y.n) := row_at r_z8.out 5
  have c_z8_6 : W8.cell? ⟨W7.heap.size, 6, none⟩ = some (.slice ao_z L_z cap_z) := row_at r_z8.out 6
  clear r_m7 c_m7_0 c_m7_1 c_m7_2 c_m7_3 c_m7_4 c_m7_5 c_m7_6 r_y7 c_y7_0 c_y7_1 c_y7_2 c_y7_3 c_y7_4 c_y7_5 c_y7_6 o_p7 o_b7 o_y7 o_z7
  have f_c8 : Hid (Sl W8 (.slice ao_c cb.length cap_c) (bs cb)) := Sl.later f_c7.out b8
  clear f_c7
  clear qg qs
  have ni : (is != is) = false := by simp
  have ne : (is == is) = true := by simp
  cases is
  · go_wp2_with fail
    rw [HW8.out]
    clear a_m7_0 a_m7_1 a_m7_2 a_m7_3 a_m7_4 a_m7_5 a_m7_6 a_y7_0 a_y7_1 a_y7_2 a_y7_3 a_y7_4 a_y7_5 a_y7_6
    refine wp_region_held_drew (S := fun w' => w'.cell? ⟨W1.heap.size, 0, none⟩ = some (.int .i64 m.k) ∧ w'.cell? ⟨W1.heap.size, 1, none⟩ = some (.int .i64 m.f) ∧ w'.cell? ⟨W1.heap.size, 2, none⟩ = some (.int .i64 m.t) ∧ w'.cell? ⟨W1.heap.size, 3, none⟩ = some (.int .i64 m.h.n) ∧ w'.cell? ⟨W1.heap.size, 4, none⟩ = some (.string m.h.r) ∧ w'.cell? ⟨W1.heap.size, 5, none⟩ = some (.int .i64 m.n) ∧ w'.cell? ⟨W1.heap.size, 6, none⟩ = some (.slice ao_p L_p cap_p)) (by kernel_rfl) ⟨c_m8_0, c_m8_1, c_m8_2, c_m8_3, c_m8_4, c_m8_5, c_m8_6⟩ (fun hHeld => ?_)
    (refine wpAnyH_take (i := 0) (v := ?v0x26) rfl (by kernel_rfl) (by kernel_rfl) (by kernel_rfl) (fun _ _ _ h => h) (Or.inl ⟨by rfl, ?hy0x26⟩) (by assumption) ?rest0x26; case hy0x26 => (intro w hSw; (try dsimp only at hSw); go_split_ands; go_simp; (try with_reducible rfl)))
    try simp only [Act.put, List.setIfInBounds_toArray, List.set_cons_zero, List.set_cons_succ, List.getElem_toArray, List.getElem_cons_zero, List.getElem_cons_succ]
    (refine wpAnyH_take (i := 1) (v := ?v1x27) rfl (by kernel_rfl) (by kernel_rfl) (by kernel_rfl) (fun _ _ _ h => h) (Or.inl ⟨by rfl, ?hy1x27⟩) (by assumption) ?rest1x27; case hy1x27 => (intro w hSw; (try dsimp only at hSw); go_split_ands; go_simp; (try with_reducible rfl)))
    try simp only [Act.put, List.setIfInBounds_toArray, List.set_cons_zero, List.set_cons_succ, List.getElem_toArray, List.getElem_cons_zero, List.getElem_cons_succ]
    (refine wpAnyH_take (i := 2) (v := ?v2x28) rfl (by kernel_rfl) (by kernel_rfl) (by kernel_rfl) (fun _ _ _ h => h) (Or.inl ⟨by rfl, ?hy2x28⟩) (by assumption) ?rest2x28; case hy2x28 => (intro w hSw; (try dsimp only at hSw); go_split_ands; go_simp; (try with_reducible rfl)))
    try simp only [Act.put, List.setIfInBounds_toArray, List.set_cons_zero, List.set_cons_succ, List.getElem_toArray, List.getElem_cons_zero, List.getElem_cons_succ]
    (refine wpAnyH_take (i := 3) (v := ?v3x29) rfl (by kernel_rfl) (by kernel_rfl) (by kernel_rfl) (fun _ _ _ h => h) (Or.inl ⟨by rfl, ?hy3x29⟩) (by assumption) ?rest3x29; case hy3x29 => (intro w hSw; (try dsimp only at hSw); go_split_ands; go_simp; (try with_reducible rfl)))
    try simp only [Act.put, List.setIfInBounds_toArray, List.set_cons_zero, List.set_cons_succ, List.getElem_toArray, List.getElem_cons_zero, List.getElem_cons_succ]
    (refine wpAnyH_take (i := 4) (v := ?v4x30) rfl (by kernel_rfl) (by kernel_rfl) (by kernel_rfl) (fun _ _ _ h => h) (Or.inl ⟨by rfl, ?hy4x30⟩) (by assumption) ?rest4x30; case hy4x30 => (intro w hSw; (try dsimp only at hSw); go_split_ands; go_simp; (try with_reducible rfl)))
    try simp only [Act.put, List.setIfInBounds_toArray, List.set_cons_zero, List.set_cons_succ, List.getElem_toArray, List.getElem_cons_zero, List.getElem_cons_succ]
    (refine wpAnyH_take (i := 5) (v := ?v5x31) rfl (by kernel_rfl) (by kernel_rfl) (by kernel_rfl) (fun _ _ _ h => h) (Or.inl ⟨by rfl, ?hy5x31⟩) (by assumption) ?rest5x31; case hy5x31 => (intro w hSw; (try dsimp only at hSw); go_split_ands; go_simp; (try with_reducible rfl)))
    try simp only [Act.put, List.setIfInBounds_toArray, List.set_cons_zero, List.set_cons_succ, List.getElem_toArray, List.getElem_cons_zero, List.getElem_cons_succ]
    (refine wpAnyH_take (i := 6) (v := undef) rfl (by kernel_rfl) (by kernel_rfl) (by kernel_rfl) (fun _ _ _ h => h) (Or.inr ⟨by rfl, rfl⟩) (by assumption) ?_)
    try simp only [Act.put, List.setIfInBounds_toArray, List.set_cons_zero, List.set_cons_succ, List.getElem_toArray, List.getElem_cons_zero, List.getElem_cons_succ]
    (refine wpAnyH_take (i := 7) (v := undef) rfl (by kernel_rfl) (by kernel_rfl) (by kernel_rfl) (fun _ _ _ h => h) (Or.inr ⟨by rfl, rfl⟩) (by assumption) ?_)
    try simp only [Act.put, List.setIfInBounds_toArray, List.set_cons_zero, List.set_cons_succ, List.getElem_toArray, List.getElem_cons_zero, List.getElem_cons_succ]
    (refine wpAnyH_take (i := 8) (v := undef) rfl (by kernel_rfl) (by kernel_rfl) (by kernel_rfl) (fun _ _ _ h => h) (Or.inr ⟨by rfl, rfl⟩) (by assumption) ?_)
    try simp only [Act.put, List.setIfInBounds_toArray, List.set_cons_zero, List.set_cons_succ, List.getElem_toArray, List.getElem_cons_zero, List.getElem_cons_succ]
    (refine wpAnyH_take (i := 9) (v := undef) rfl (by kernel_rfl) (by kernel_rfl) (by kernel_rfl) (fun _ _ _ h => h) (Or.inr ⟨by rfl, rfl⟩) (by assumption) ?_)
    try simp only [Act.put, List.setIfInBounds_toArray, List.set_cons_zero, List.set_cons_succ, List.getElem_toArray, List.getElem_cons_zero, List.getElem_cons_succ]
    (refine wpAnyH_take (i := 10) (v := undef) rfl (by kernel_rfl) (by kernel_rfl) (by kernel_rfl) (fun _ _ _ h => h) (Or.inr ⟨by rfl, rfl⟩) (by assumption) ?_)
    try simp only [Act.put, List.setIfInBounds_toArray, List.set_cons_zero, List.set_cons_succ, List.getElem_toArray, List.getElem_cons_zero, List.getElem_cons_succ]
    (refine wpAnyH_take (i := 11) (v := undef) rfl (by kernel_rfl) (by kernel_rfl) (by kernel_rfl) (fun _ _ _ h => h) (Or.inr ⟨by rfl, rfl⟩) (by assumption) ?_)
    try simp only [Act.put, List.setIfInBounds_toArray, List.set_cons_zero, List.set_cons_succ, List.getElem_toArray, List.getElem_cons_zero, List.getElem_cons_succ]
    (refine wpAnyH_take (i := 12) (v := ?v12x38) rfl (by kernel_rfl) (by kernel_rfl) (by kernel_rfl) (fun _ _ _ h => h) (Or.inl ⟨by rfl, ?hy12x38⟩) (by assumption) ?rest12x38; case hy12x38 => (intro w hSw; (try dsimp only at hSw); go_split_ands; go_simp; (try with_reducible rfl)))
    try simp only [Act.put, List.setIfInBounds_toArray, List.set_cons_zero, List.set_cons_succ, List.getElem_toArray, List.getElem_cons_zero, List.getElem_cons_succ]
    (refine wpAnyH_take (i := 13) (v := ?v13x39) rfl (by kernel_rfl) (by kernel_rfl) (by kernel_rfl) (fun _ _ _ h => h) (Or.inl ⟨by rfl, ?hy13x39⟩) (by assumption) ?rest13x39; case hy13x39 => (intro w hSw; (try dsimp only at hSw); go_split_ands; go_simp; (try with_reducible rfl)))
    try simp only [Act.put, List.setIfInBounds_toArray, List.set_cons_zero, List.set_cons_succ, List.getElem_toArray, List.getElem_cons_zero, List.getElem_cons_succ]
    refine wpAnyH_done (by kernel_rfl) ?_ _
    clear hHeld
    obtain ⟨W9, HW9, b9⟩ : ∃ X, Hid (W8.drew = X) ∧ Below W8.heap.size W8 X := ⟨_, rfl, Below.drew (Below.refl _ _)⟩
    rw [HW9.out]
    have z9 : W8.heap.size ≤ W9.heap.size := b9.size
    have B9 : Hid (Below w.heap.size w W9) := B8.out.trans (b9.mono B8.out.size)
    have r_m9 : Hid (W9.heap[W1.heap.size]? = some (.cells #[.int .i64 m.k, .int .i64 m.f, .int .i64 m.t, .int .i64 m.h.n, .string m.h.r, .int .i64 m.n, .slice ao_p L_p cap_p] 28 (0, 0))) := rowKeep r_m8.out b9
    have r_y9 : Hid (W9.heap[W5.heap.size]? = some (.cells #[.int .i64 y.k, .int .i64 y.f, .int .i64 y.t, .int .i64 y.h.n, .string y.h.r, .int .i64 y.n, .slice ao_y L_y cap_y] 28 (0, 0))) := rowKeep r_y8.out b9
    have r_z9 : Hid (W9.heap[W7.heap.size]? = some (.cells #[.int .i64 y.k, .int .i64 y.f, .int .i64 y.t, .int .i64 y.h.n, .string y.h.r, .int .i64 y.n, .slice ao_z L_z cap_z] 28 (0, 0))) := rowKeep r_z8.out b9
    have o_p9 : Hid (Own W9 (w.heap.size) (W1.heap.size) 9 (.slice ao_p L_p cap_p) (ss m.x)) := Own.later o_p8.out b9 (by omega)
    have o_b9 : Hid (Own W9 (W2.heap.size) (W3.heap.size) 5 (.slice ao_b P.length cap_b) (bs P)) := Own.later o_b8.out b9 (by omega)
    have o_y9 : Hid (Own W9 (W4.heap.size) (W5.heap.size) 9 (.slice ao_y L_y cap_y) (ss y.x)) := Own.later o_y8.out b9 (by omega)
    have o_z9 : Hid (Own W9 (W6.heap.size) (W7.heap.size) 9 (.slice ao_z L_z cap_z) (ss y.x)) := Own.later o_z8.out b9 (by omega)
    have c_m9_0 : W9.cell? ⟨W1.heap.size, 0, none⟩ = some (.int .i64 m.k) := row_at r_m9.out 0
    have c_m9_1 : W9.cell? ⟨W1.heap.size, 1, none⟩ = some (.int .i64 m.f) := row_at r_m9.out 1
    have c_m9_2 : W9.cell? ⟨W1.heap.size, 2, none⟩ = some (.int .i64 m.t) := row_at r_m9.out 2
    have c_m9_3 : W9.cell? ⟨W1.heap.size, 3, none⟩ = some (.int .i64 m.h.n) := row_at r_m9.out 3
    have c_m9_4 : W9.cell? ⟨W1.heap.size, 4, none⟩ = some (.string m.h.r) := row_at r_m9.out 4
    have c_m9_5 : W9.cell? ⟨W1.heap.size, 5, none⟩ = some (.int .i64 m.n) := row_at r_m9.out 5
    have c_m9_6 : W9.cell? ⟨W1.heap.size, 6, none⟩ = some (.slice ao_p L_p cap_p) := row_at r_m9.out 6
    have c_y9_0 : W9.cell? ⟨W5.heap.size, 0, none⟩ = some (.int .i64 y.k) := row_at r_y9.out 0
    have c_y9_1 : W9.cell? ⟨W5.heap.size, 1, none⟩ = some (.int .i64 y.f) := row_at r_y9.out 1
    have c_y9_2 : W9.cell? ⟨W5.heap.size, 2, none⟩ = some (.int .i64 y.t) := row_at r_y9.out 2
    have c_y9_3 : W9.cell? ⟨W5.heap.size, 3, none⟩ = some (.int .i64 y.h.n) := row_at r_y9.out 3
    have c_y9_4 : W9.cell? ⟨W5.heap.size, 4, none⟩ = some (.string y.h.r) := row_at r_y9.out 4
    have c_y9_5 : W9.cell? ⟨W5.heap.size, 5, none⟩ = some (.int .i64 y.n) := row_at r_y9.out 5
    have c_y9_6 : W9.cell? ⟨W5.heap.size, 6, none⟩ = some (.slice ao_y L_y cap_y) := row_at r_y9.out 6
    have c_z9_0 : W9.cell? ⟨W7.heap.size, 0, none⟩ = some (.int .i64 y.k) := row_at r_z9.out 0
    have c_z9_1 : W9.cell? ⟨W7.heap.size, 1, none⟩ = some (.int .i64 y.f) := row_at r_z9.out 1
    have c_z9_2 : W9.cell? ⟨W7.heap.size, 2, none⟩ = some (.int .i64 y.t) := row_at r_z9.out 2
    have c_z9_3 : W9.cell? ⟨W7.heap.size, 3, none⟩ = some (.int .i64 y.h.n) := row_at r_z9.out 3
    have c_z9_4 : W9.cell? ⟨W7.heap.size, 4, none⟩ = some (.string y.h.r) := row_at r_z9.out 4
    have c_z9_5 : W9.cell? ⟨W7.heap.size, 5, none⟩ = some (.int .i64 y.n) := row_at r_z9.out 5
    have c_z9_6 : W9.cell? ⟨W7.heap.size, 6, none⟩ = some (.slice ao_z L_z cap_z) := row_at r_z9.out 6
    clear r_m8 c_m8_0 c_m8_1 c_m8_2 c_m8_3 c_m8_4 c_m8_5 c_m8_6 r_y8 c_y8_0 c_y8_1 c_y8_2 c_y8_3 c_y8_4 c_y8_5 c_y8_6 r_z8 c_z8_0 c_z8_1 c_z8_2 c_z8_3 c_z8_4 c_z8_5 c_z8_6 o_p8 o_b8 o_y8 o_z8
    have f_c9 : Hid (Sl W9 (.slice ao_c cb.length cap_c) (bs cb)) := Sl.later f_c8.out b9
    clear f_c8
    clear o_y9
    clear o_z9
    clear f_c9
    have q3 : ∀ W v1, Sl W v1 (ss m.x) → _ := fun W v1 h1 => msgok_spec W v1 m h1 (by omega)
    have q4 : ∀ W v1, Below w.heap.size w W → Sl W v1 (ss m.x) → _ := fun W v1 hW h1 => iOk W hW v1 m h1 (by omega) HSZ.out (by omega)
    obtain ⟨A, hA⟩ : ∃ A, msgOk m = A := ⟨_, rfl⟩
    simp only [hA] at q3 q4
    have HA : Hid (msgOk m = A) := hA
    clear hA
    go_wp2_with fail
    refine (q3 W9 _ o_p9.out.sl).mono ?_
    rintro e W10 ⟨rfl, b10⟩
    have z10 : W9.heap.size ≤ W10.heap.size := b10.size
    have B10 : Hid (Below w.heap.size w W10) := B9.out.trans (b10.mono B9.out.size)
    have r_m10 : Hid (W10.heap[W1.heap.size]? = some (.cells #[.int .i64 m.k, .int .i64 m.f, .int .i64 m.t, .int .i64 m.h.n, .string m.h.r, .int .i64 m.n, .slice ao_p L_p cap_p] 28 (0, 0))) := rowKeep r_m9.out b10
    have r_y10 : Hid (W10.heap[W5.heap.size]? = some (.cells #[.int .i64 y.k, .int .i64 y.f, .int .i64 y.t, .int .i64 y.h.n, .string y.h.r, .int .i64 y.n, .slice ao_y L_y cap_y] 28 (0, 0))) := rowKeep r_y9.out b10
    have r_z10 : Hid (W10.heap[W7.heap.size]? = some (.cells #[.int .i64 y.k, .int .i64 y.f, .int .i64 y.t, .int .i64 y.h.n, .string y.h.r, .int .i64 y.n, .slice ao_z L_z cap_z] 28 (0, 0))) := rowKeep r_z9.out b10
    have o_p10 : Hid (Own W10 (w.heap.size) (W1.heap.size) 9 (.slice ao_p L_p cap_p) (ss m.x)) := Own.later o_p9.out b10 (by omega)
    have o_b10 : Hid (Own W10 (W2.heap.size) (W3.heap.size) 5 (.slice ao_b P.length cap_b) (bs P)) := Own.later o_b9.out b10 (by omega)
    have c_m10_0 : W10.cell? ⟨W1.heap.size, 0, none⟩ = some (.int .i64 m.k) := row_at r_m10.out 0
    have c_m10_1 : W10.cell? ⟨W1.heap.size, 1, none⟩ = some (.int .i64 m.f) := row_at r_m10.out 1
    have c_m10_2 : W10.cell? ⟨W1.heap.size, 2, none⟩ = some (.int .i64 m.t) := row_at r_m10.out 2
    have c_m10_3 : W10.cell? ⟨W1.heap.size, 3, none⟩ = some (.int .i64 m.h.n) := row_at r_m10.out 3
    have c_m10_4 : W10.cell? ⟨W1.heap.size, 4, none⟩ = some (.string m.h.r) := row_at r_m10.out 4
    have c_m10_5 : W10.cell? ⟨W1.heap.size, 5, none⟩ = some (.int .i64 m.n) := row_at r_m10.out 5
    have c_m10_6 : W10.cell? ⟨W1.heap.size, 6, none⟩ = some (.slice ao_p L_p cap_p) := row_at r_m10.out 6
    have c_y10_0 : W10.cell? ⟨W5.heap.size, 0, none⟩ = some (.int .i64 y.k) := row_at r_y10.out 0
    have c_y10_1 : W10.cell? ⟨W5.heap.size, 1, none⟩ = some (.int .i64 y.f) := row_at r_y10.out 1
    have c_y10_2 : W10.cell? ⟨W5.heap.size, 2, none⟩ = some (.int .i64 y.t) := row_at r_y10.out 2
    have c_y10_3 : W10.cell? ⟨W5.heap.size, 3, none⟩ = some (.int .i64 y.h.n) := row_at r_y10.out 3
    have c_y10_4 : W10.cell? ⟨W5.heap.size, 4, none⟩ = some (.string y.h.r) := row_at r_y10.out 4
    have c_y10_5 : W10.cell? ⟨W5.heap.size, 5, none⟩ = some (.int .i64 y.n) := row_at r_y10.out 5
    have c_y10_6 : W10.cell? ⟨W5.heap.size, 6, none⟩ = some (.slice ao_y L_y cap_y) := row_at r_y10.out 6
    have c_z10_0 : W10.cell? ⟨W7.heap.size, 0, none⟩ = some (.int .i64 y.k) := row_at r_z10.out 0
    have c_z10_1 : W10.cell? ⟨W7.heap.size, 1, none⟩ = some (.int .i64 y.f) := row_at r_z10.out 1
    have c_z10_2 : W10.cell? ⟨W7.heap.size, 2, none⟩ = some (.int .i64 y.t) := row_at r_z10.out 2
    have c_z10_3 : W10.cell? ⟨W7.heap.size, 3, none⟩ = some (.int .i64 y.h.n) := row_at r_z10.out 3
    have c_z10_4 : W10.cell? ⟨W7.heap.size, 4, none⟩ = some (.string y.h.r) := row_at r_z10.out 4
    have c_z10_5 : W10.cell? ⟨W7.heap.size, 5, none⟩ = some (.int .i64 y.n) := row_at r_z10.out 5
    have c_z10_6 : W10.cell? ⟨W7.heap.size, 6, none⟩ = some (.slice ao_z L_z cap_z) := row_at r_z10.out 6
    clear r_m9 c_m9_0 c_m9_1 c_m9_2 c_m9_3 c_m9_4 c_m9_5 c_m9_6 r_y9 c_y9_0 c_y9_1 c_y9_2 c_y9_3 c_y9_4 c_y9_5 c_y9_6 r_z9 c_z9_0 c_z9_1 c_z9_2 c_z9_3 c_z9_4 c_z9_5 c_z9_6 o_p9 o_b9
    clear q3
    cases A
    · have e9 : P = [] := by rw [← HP.out]; unfold putM; rw [HA.out]; rfl
      have hp0 : (P.length : Int) = 0 := by rw [e9]; rfl
      have hpb : ((P.length : Int) == 0) = true := by rw [hp0]; rfl
      clear e9
      go_wp2_with fail
      refine (q4 W10 _ B10.out o_p10.out.sl).mono ?_
      rintro e W11 ⟨rfl, b11⟩
      have z11 : W10.heap.size ≤ W11.heap.size := b11.size
      have B11 : Hid (Below w.heap.size w W11) := B10.out.trans (b11.mono B10.out.size)
      have r_m11 : Hid (W11.heap[W1.heap.size]? = some (.cells #[.int .i64 m.k, .int .i64 m.f, .int .i64 m.t, .int .i64 m.h.n, .string m.h.r, .int .i64 m.n, .slice ao_p L_p cap_p] 28 (0, 0))) := rowKeep r_m10.out b11
      have r_y11 : Hid (W11.heap[W5.heap.size]? = some (.cells #[.int .i64 y.k, .int .i64 y.f, .int .i64 y.t, .int .i64 y.h.n, .string y.h.r, .int .i64 y.n, .slice ao_y L_y cap_y] 28 (0, 0))) := rowKeep r_y10.out b11
      have r_z11 : Hid (W11.heap[W7.heap.size]? = some (.cells #[.int .i64 y.k, .int .i64 y.f, .int .i64 y.t, .int .i64 y.h.n, .string y.h.r, .int .i64 y.n, .slice ao_z L_z cap_z] 28 (0, 0))) := rowKeep r_z10.out b11
      have o_p11 : Hid (Own W11 (w.heap.size) (W1.heap.size) 9 (.slice ao_p L_p cap_p) (ss m.x)) := Own.later o_p10.out b11 (by omega)
      have o_b11 : Hid (Own W11 (W2.heap.size) (W3.heap.size) 5 (.slice ao_b P.length cap_b) (bs P)) := Own.later o_b10.out b11 (by omega)
      have c_m11_0 : W11.cell? ⟨W1.heap.size, 0, none⟩ = some (.int .i64 m.k) := row_at r_m11.out 0
      have c_m11_1 : W11.cell? ⟨W1.heap.size, 1, none⟩ = some (.int .i64 m.f) := row_at r_m11.out 1
      have c_m11_2 : W11.cell? ⟨W1.heap.size, 2, none⟩ = some (.int .i64 m.t) := row_at r_m11.out 2
      have c_m11_3 : W11.cell? ⟨W1.heap.size, 3, none⟩ = some (.int .i64 m.h.n) := row_at r_m11.out 3
      have c_m11_4 : W11.cell? ⟨W1.heap.size, 4, none⟩ = some (.string m.h.r) := row_at r_m11.out 4
      have c_m11_5 : W11.cell? ⟨W1.heap.size, 5, none⟩ = some (.int .i64 m.n) := row_at r_m11.out 5
      have c_m11_6 : W11.cell? ⟨W1.heap.size, 6, none⟩ = some (.slice ao_p L_p cap_p) := row_at r_m11.out 6
      have c_y11_0 : W11.cell? ⟨W5.heap.size, 0, none⟩ = some (.int .i64 y.k) := row_at r_y11.out 0
      have c_y11_1 : W11.cell? ⟨W5.heap.size, 1, none⟩ = some (.int .i64 y.f) := row_at r_y11.out 1
      have c_y11_2 : W11.cell? ⟨W5.heap.size, 2, none⟩ = some (.int .i64 y.t) := row_at r_y11.out 2
      have c_y11_3 : W11.cell? ⟨W5.heap.size, 3, none⟩ = some (.int .i64 y.h.n) := row_at r_y11.out 3
      have c_y11_4 : W11.cell? ⟨W5.heap.size, 4, none⟩ = some (.string y.h.r) := row_at r_y11.out 4
      have c_y11_5 : W11.cell? ⟨W5.heap.size, 5, none⟩ = some (.int .i64 y.n) := row_at r_y11.out 5
      have c_y11_6 : W11.cell? ⟨W5.heap.size, 6, none⟩ = some (.slice ao_y L_y cap_y) := row_at r_y11.out 6
      have c_z11_0 : W11.cell? ⟨W7.heap.size, 0, none⟩ = some (.int .i64 y.k) := row_at r_z11.out 0
      have c_z11_1 : W11.cell? ⟨W7.heap.size, 1, none⟩ = some (.int .i64 y.f) := row_at r_z11.out 1
      have c_z11_2 : W11.cell? ⟨W7.heap.size, 2, none⟩ = some (.int .i64 y.t) := row_at r_z11.out 2
      have c_z11_3 : W11.cell? ⟨W7.heap.size, 3, none⟩ = some (.int .i64 y.h.n) := row_at r_z11.out 3
      have c_z11_4 : W11.cell? ⟨W7.heap.size, 4, none⟩ = some (.string y.h.r) := row_at r_z11.out 4
      have c_z11_5 : W11.cell? ⟨W7.heap.size, 5, none⟩ = some (.int .i64 y.n) := row_at r_z11.out 5
      have c_z11_6 : W11.cell? ⟨W7.heap.size, 6, none⟩ = some (.slice ao_z L_z cap_z) := row_at r_z11.out 6
      clear r_m10 c_m10_0 c_m10_1 c_m10_2 c_m10_3 c_m10_4 c_m10_5 c_m10_6 r_y10 c_y10_0 c_y10_1 c_y10_2 c_y10_3 c_y10_4 c_y10_5 c_y10_6 r_z10 c_z10_0 c_z10_1 c_z10_2 c_z10_3 c_z10_4 c_z10_5 c_z10_6 o_p10 o_b10
      go_wp2
      go_ret
      exact ⟨rfl, B11.out⟩
    · have e9 : P = bytesM m := by rw [← HP.out]; unfold putM; rw [HA.out]; rfl
      have g9 := get_putM HA.out (fun s h => Nat.le_trans (HSZ.out s h) (by omega))
      rw [← e9] at g9
      have hPb9 : P.length ≤ 400 := by rw [e9]; exact hbs
      have HPY : Hid (Byt P) := by show Byt P; rw [e9]; exact bytes_byt m
      have q5 : ∀ W v1, Below w.heap.size w W → Sl W v1 (bs P) → _ := fun W v1 hW h1 => iGet W hW v1 P h1 HPY.out (by omega)
      unfold GotM at q5
      simp only [g9] at q5
      clear g9 e9 q4
      go_wp2_with fail
      refine (q5 W10 _ B10.out o_b10.out.sl).mono ?_
      rintro e W11 ⟨v_x, rfl, o_x11, b11⟩
      obtain ⟨ao_x, L_x, cap_x, rfl, hL_x, hM_x⟩ := o_x11.form
      have o_x11 : Hid (Own W11 W10.heap.size W11.heap.size 9 (.slice ao_x L_x cap_x) (ss m.x)) := o_x11
      clear hL_x hM_x
      have z11 : W10.heap.size ≤ W11.heap.size := b11.size
      have B11 : Hid (Below w.heap.size w W11) := B10.out.trans (b11.mono B10.out.size)
      have r_m11 : Hid (W11.heap[W1.heap.size]? = some (.cells #[.int .i64 m.k, .int .i64 m.f, .int .i64 m.t, .int .i64 m.h.n, .string m.h.r, .int .i64 m.n, .slice ao_p L_p cap_p] 28 (0, 0))) := rowKeep r_m10.out b11
      have r_y11 : Hid (W11.heap[W5.heap.size]? = some (.cells #[.int .i64 y.k, .int .i64 y.f, .int .i64 y.t, .int .i64 y.h.n, .string y.h.r, .int .i64 y.n, .slice ao_y L_y cap_y] 28 (0, 0))) := rowKeep r_y10.out b11
      have r_z11 : Hid (W11.heap[W7.heap.size]? = some (.cells #[.int .i64 y.k, .int .i64 y.f, .int .i64 y.t, .int .i64 y.h.n, .string y.h.r, .int .i64 y.n, .slice ao_z L_z cap_z] 28 (0, 0))) := rowKeep r_z10.out b11
      have o_p11 : Hid (Own W11 (w.heap.size) (W1.heap.size) 9 (.slice ao_p L_p cap_p) (ss m.x)) := Own.later o_p10.out b11 (by omega)
      have o_b11 : Hid (Own W11 (W2.heap.size) (W3.heap.size) 5 (.slice ao_b P.length cap_b) (bs P)) := Own.later o_b10.out b11 (by omega)
      have c_m11_0 : W11.cell? ⟨W1.heap.size, 0, none⟩ = some (.int .i64 m.k) := row_at r_m11.out 0
      have c_m11_1 : W11.cell? ⟨W1.heap.size, 1, none⟩ = some (.int .i64 m.f) := row_at r_m11.out 1
      have c_m11_2 : W11.cell? ⟨W1.heap.size, 2, none⟩ = some (.int .i64 m.t) := row_at r_m11.out 2
      have c_m11_3 : W11.cell? ⟨W1.heap.size, 3, none⟩ = some (.int .i64 m.h.n) := row_at r_m11.out 3
      have c_m11_4 : W11.cell? ⟨W1.heap.size, 4, none⟩ = some (.string m.h.r) := row_at r_m11.out 4
      have c_m11_5 : W11.cell? ⟨W1.heap.size, 5, none⟩ = some (.int .i64 m.n) := row_at r_m11.out 5
      have c_m11_6 : W11.cell? ⟨W1.heap.size, 6, none⟩ = some (.slice ao_p L_p cap_p) := row_at r_m11.out 6
      have c_y11_0 : W11.cell? ⟨W5.heap.size, 0, none⟩ = some (.int .i64 y.k) := row_at r_y11.out 0
      have c_y11_1 : W11.cell? ⟨W5.heap.size, 1, none⟩ = some (.int .i64 y.f) := row_at r_y11.out 1
      have c_y11_2 : W11.cell? ⟨W5.heap.size, 2, none⟩ = some (.int .i64 y.t) := row_at r_y11.out 2
      have c_y11_3 : W11.cell? ⟨W5.heap.size, 3, none⟩ = some (.int .i64 y.h.n) := row_at r_y11.out 3
      have c_y11_4 : W11.cell? ⟨W5.heap.size, 4, none⟩ = some (.string y.h.r) := row_at r_y11.out 4
      have c_y11_5 : W11.cell? ⟨W5.heap.size, 5, none⟩ = some (.int .i64 y.n) := row_at r_y11.out 5
      have c_y11_6 : W11.cell? ⟨W5.heap.size, 6, none⟩ = some (.slice ao_y L_y cap_y) := row_at r_y11.out 6
      have c_z11_0 : W11.cell? ⟨W7.heap.size, 0, none⟩ = some (.int .i64 y.k) := row_at r_z11.out 0
      have c_z11_1 : W11.cell? ⟨W7.heap.size, 1, none⟩ = some (.int .i64 y.f) := row_at r_z11.out 1
      have c_z11_2 : W11.cell? ⟨W7.heap.size, 2, none⟩ = some (.int .i64 y.t) := row_at r_z11.out 2
      have c_z11_3 : W11.cell? ⟨W7.heap.size, 3, none⟩ = some (.int .i64 y.h.n) := row_at r_z11.out 3
      have c_z11_4 : W11.cell? ⟨W7.heap.size, 4, none⟩ = some (.string y.h.r) := row_at r_z11.out 4
      have c_z11_5 : W11.cell? ⟨W7.heap.size, 5, none⟩ = some (.int .i64 y.n) := row_at r_z11.out 5
      have c_z11_6 : W11.cell? ⟨W7.heap.size, 6, none⟩ = some (.slice ao_z L_z cap_z) := row_at r_z11.out 6
      clear r_m10 c_m10_0 c_m10_1 c_m10_2 c_m10_3 c_m10_4 c_m10_5 c_m10_6 r_y10 c_y10_0 c_y10_1 c_y10_2 c_y10_3 c_y10_4 c_y10_5 c_y10_6 r_z10 c_z10_0 c_z10_1 c_z10_2 c_z10_3 c_z10_4 c_z10_5 c_z10_6 o_p10 o_b10
      have a_m11_0 : ∀ o, (W11.alloc o).cell? ⟨W1.heap.size, 0, none⟩ = some (.int .i64 m.k) := fun o => keepR c_m11_0 ((Below.refl _ _).alloc (Nat.le_refl _) o)
      have a_m11_1 : ∀ o, (W11.alloc o).cell? ⟨W1.heap.size, 1, none⟩ = some (.int .i64 m.f) := fun o => keepR c_m11_1 ((Below.refl _ _).alloc (Nat.le_refl _) o)
      have a_m11_2 : ∀ o, (W11.alloc o).cell? ⟨W1.heap.size, 2, none⟩ = some (.int .i64 m.t) := fun o => keepR c_m11_2 ((Below.refl _ _).alloc (Nat.le_refl _) o)
      have a_m11_3 : ∀ o, (W11.alloc o).cell? ⟨W1.heap.size, 3, none⟩ = some (.int .i64 m.h.n) := fun o => keepR c_m11_3 ((Below.refl _ _).alloc (Nat.le_refl _) o)
      have a_m11_4 : ∀ o, (W11.alloc o).cell? ⟨W1.heap.size, 4, none⟩ = some (.string m.h.r) := fun o => keepR c_m11_4 ((Below.refl _ _).alloc (Nat.le_refl _) o)
      have a_m11_5 : ∀ o, (W11.alloc o).cell? ⟨W1.heap.size, 5, none⟩ = some (.int .i64 m.n) := fun o => keepR c_m11_5 ((Below.refl _ _).alloc (Nat.le_refl _) o)
      have a_m11_6 : ∀ o, (W11.alloc o).cell? ⟨W1.heap.size, 6, none⟩ = some (.slice ao_p L_p cap_p) := fun o => keepR c_m11_6 ((Below.refl _ _).alloc (Nat.le_refl _) o)
      have a_y11_0 : ∀ o, (W11.alloc o).cell? ⟨W5.heap.size, 0, none⟩ = some (.int .i64 y.k) := fun o => keepR c_y11_0 ((Below.refl _ _).alloc (Nat.le_refl _) o)
      have a_y11_1 : ∀ o, (W11.alloc o).cell? ⟨W5.heap.size, 1, none⟩ = some (.int .i64 y.f) := fun o => keepR c_y11_1 ((Below.refl _ _).alloc (Nat.le_refl _) o)
      have a_y11_2 : ∀ o, (W11.alloc o).cell? ⟨W5.heap.size, 2, none⟩ = some (.int .i64 y.t) := fun o => keepR c_y11_2 ((Below.refl _ _).alloc (Nat.le_refl _) o)
      have a_y11_3 : ∀ o, (W11.alloc o).cell? ⟨W5.heap.size, 3, none⟩ = some (.int .i64 y.h.n) := fun o => keepR c_y11_3 ((Below.refl _ _).alloc (Nat.le_refl _) o)
      have a_y11_4 : ∀ o, (W11.alloc o).cell? ⟨W5.heap.size, 4, none⟩ = some (.string y.h.r) := fun o => keepR c_y11_4 ((Below.refl _ _).alloc (Nat.le_refl _) o)
      have a_y11_5 : ∀ o, (W11.alloc o).cell? ⟨W5.heap.size, 5, none⟩ = some (.int .i64 y.n) := fun o => keepR c_y11_5 ((Below.refl _ _).alloc (Nat.le_refl _) o)
      have a_y11_6 : ∀ o, (W11.alloc o).cell? ⟨W5.heap.size, 6, none⟩ = some (.slice ao_y L_y cap_y) := fun o => keepR c_y11_6 ((Below.refl _ _).alloc (Nat.le_refl _) o)
      have a_z11_0 : ∀ o, (W11.alloc o).cell? ⟨W7.heap.size, 0, none⟩ = some (.int .i64 y.k) := fun o => keepR c_z11_0 ((Below.refl _ _).alloc (Nat.le_refl _) o)
      have a_z11_1 : ∀ o, (W11.alloc o).cell? ⟨W7.heap.size, 1, none⟩ = some (.int .i64 y.f) := fun o => keepR c_z11_1 ((Below.refl _ _).alloc (Nat.le_refl _) o)
      have a_z11_2 : ∀ o, (W11.alloc o).cell? ⟨W7.heap.size, 2, none⟩ = some (.int .i64 y.t) := fun o => keepR c_z11_2 ((Below.refl _ _).alloc (Nat.le_refl _) o)
      have a_z11_3 : ∀ o, (W11.alloc o).cell? ⟨W7.heap.size, 3, none⟩ = some (.int .i64 y.h.n) := fun o => keepR c_z11_3 ((Below.refl _ _).alloc (Nat.le_refl _) o)
      have a_z11_4 : ∀ o, (W11.alloc o).cell? ⟨W7.heap.size, 4, none⟩ = some (.string y.h.r) := fun o => keepR c_z11_4 ((Below.refl _ _).alloc (Nat.le_refl _) o)
      have a_z11_5 : ∀ o, (W11.alloc o).cell? ⟨W7.heap.size, 5, none⟩ = some (.int .i64 y.n) := fun o => keepR c_z11_5 ((Below.refl _ _).alloc (Nat.le_refl _) o)
      have a_z11_6 : ∀ o, (W11.alloc o).cell? ⟨W7.heap.size, 6, none⟩ = some (.slice ao_z L_z cap_z) := fun o => keepR c_z11_6 ((Below.refl _ _).alloc (Nat.le_refl _) o)
      obtain ⟨W12, HW12, b12, y12, hS12, r_x12⟩ : ∃ X, Hid ((W11.alloc (.cells #[.int .i64 m.k, .int .i64 m.f, .int .i64 m.t, .int .i64 m.h.n, .string m.h.r, .int .i64 m.n, .slice ao_x L_x cap_x] 28)) = X) ∧ Below W11.heap.size W11 X ∧ W11.heap.size + 1 ≤ X.heap.size ∧ Hid (X.heap.size = W11.heap.size + 1) ∧ Hid (X.heap[W11.heap.size]? = some (.cells #[.int .i64 m.k, .int .i64 m.f, .int .i64 m.t, .int .i64 m.h.n, .string m.h.r, .int .i64 m.n, .slice ao_x L_x cap_x] 28 (0, 0))) := ⟨_, rfl, ((Below.refl _ _).alloc (Nat.le_refl _) _), by simp, by show _ = _; simp, (by show _ = _; exact alloc_nth1_0 W11 _)⟩
      have z12 : W11.heap.size ≤ W12.heap.size := b12.size
      have B12 : Hid (Below w.heap.size w W12) := B11.out.trans (b12.mono B11.out.size)
      have r_m12 : Hid (W12.heap[W1.heap.size]? = some (.cells #[.int .i64 m.k, .int .i64 m.f, .int .i64 m.t, .int .i64 m.h.n, .string m.h.r, .int .i64 m.n, .slice ao_p L_p cap_p] 28 (0, 0))) := rowKeep r_m11.out b12
      have r_y12 : Hid (W12.heap[W5.heap.size]? = some (.cells #[.int .i64 y.k, .int .i64 y.f, .int .i64 y.t, .int .i64 y.h.n, .string y.h.r, .int .i64 y.n, .slice ao_y L_y cap_y] 28 (0, 0))) := rowKeep r_y11.out b12
      have r_z12 : Hid (W12.heap[W7.heap.size]? = some (.cells #[.int .i64 y.k, .int .i64 y.f, .int .i64 y.t, .int .i64 y.h.n, .string y.h.r, .int .i64 y.n, .slice ao_z L_z cap_z] 28 (0, 0))) := rowKeep r_z11.out b12
      have o_p12 : Hid (Own W12 (w.heap.size) (W1.heap.size) 9 (.slice ao_p L_p cap_p) (ss m.x)) := Own.later o_p11.out b12 (by omega)
      have o_b12 : Hid (Own W12 (W2.heap.size) (W3.heap.size) 5 (.slice ao_b P.length cap_b) (bs P)) := Own.later o_b11.out b12 (by omega)
      have o_x12 : Hid (Own W12 (W10.heap.size) (W11.heap.size) 9 (.slice ao_x L_x cap_x) (ss m.x)) := Own.later o_x11.out b12 (by omega)
      have c_m12_0 : W12.cell? ⟨W1.heap.size, 0, none⟩ = some (.int .i64 m.k) := row_at r_m12.out 0
      have c_m12_1 : W12.cell? ⟨W1.heap.size, 1, none⟩ = some (.int .i64 m.f) := row_at r_m12.out 1
      have c_m12_2 : W12.cell? ⟨W1.heap.size, 2, none⟩ = some (.int .i64 m.t) := row_at r_m12.out 2
      have c_m12_3 : W12.cell? ⟨W1.heap.size, 3, none⟩ = some (.int .i64 m.h.n) := row_at r_m12.out 3
      have c_m12_4 : W12.cell? ⟨W1.heap.size, 4, none⟩ = some (.string m.h.r) := row_at r_m12.out 4
      have c_m12_5 : W12.cell? ⟨W1.heap.size, 5, none⟩ = some (.int .i64 m.n) := row_at r_m12.out 5
      have c_m12_6 : W12.cell? ⟨W1.heap.size, 6, none⟩ = some (.slice ao_p L_p cap_p) := row_at r_m12.out 6
      have c_y12_0 : W12.cell? ⟨W5.heap.size, 0, none⟩ = some (.int .i64 y.k) := row_at r_y12.out 0
      have c_y12_1 : W12.cell? ⟨W5.heap.size, 1, none⟩ = some (.int .i64 y.f) := row_at r_y12.out 1
      have c_y12_2 : W12.cell? ⟨W5.heap.size, 2, none⟩ = some (.int .i64 y.t) := row_at r_y12.out 2
      have c_y12_3 : W12.cell? ⟨W5.heap.size, 3, none⟩ = some (.int .i64 y.h.n) := row_at r_y12.out 3
      have c_y12_4 : W12.cell? ⟨W5.heap.size, 4, none⟩ = some (.string y.h.r) := row_at r_y12.out 4
      have c_y12_5 : W12.cell? ⟨W5.heap.size, 5, none⟩ = some (.int .i64 y.n) := row_at r_y12.out 5
      have c_y12_6 : W12.cell? ⟨W5.heap.size, 6, none⟩ = some (.slice ao_y L_y cap_y) := row_at r_y12.out 6
      have c_z12_0 : W12.cell? ⟨W7.heap.size, 0, none⟩ = some (.int .i64 y.k) := row_at r_z12.out 0
      have c_z12_1 : W12.cell? ⟨W7.heap.size, 1, none⟩ = some (.int .i64 y.f) := row_at r_z12.out 1
      have c_z12_2 : W12.cell? ⟨W7.heap.size, 2, none⟩ = some (.int .i64 y.t) := row_at r_z12.out 2
      have c_z12_3 : W12.cell? ⟨W7.heap.size, 3, none⟩ = some (.int .i64 y.h.n) := row_at r_z12.out 3
      have c_z12_4 : W12.cell? ⟨W7.heap.size, 4, none⟩ = some (.string y.h.r) := row_at r_z12.out 4
      have c_z12_5 : W12.cell? ⟨W7.heap.size, 5, none⟩ = some (.int .i64 y.n) := row_at r_z12.out 5
      have c_z12_6 : W12.cell? ⟨W7.heap.size, 6, none⟩ = some (.slice ao_z L_z cap_z) := row_at r_z12.out 6
      have c_x12_0 : W12.cell? ⟨W11.heap.size, 0, none⟩ = some (.int .i64 m.k) := row_at r_x12.out 0
      have c_x12_1 : W12.cell? ⟨W11.heap.size, 1, none⟩ = some (.int .i64 m.f) := row_at r_x12.out 1
      have c_x12_2 : W12.cell? ⟨W11.heap.size, 2, none⟩ = some (.int .i64 m.t) := row_at r_x12.out 2
      have c_x12_3 : W12.cell? ⟨W11.heap.size, 3, none⟩ = some (.int .i64 m.h.n) := row_at r_x12.out 3
      have c_x12_4 : W12.cell? ⟨W11.heap.size, 4, none⟩ = some (.string m.h.r) := row_at r_x12.out 4
      have c_x12_5 : W12.cell? ⟨W11.heap.size, 5, none⟩ = some (.int .i64 m.n) := row_at r_x12.out 5
      have c_x12_6 : W12.cell? ⟨W11.heap.size, 6, none⟩ = some (.slice ao_x L_x cap_x) := row_at r_x12.out 6
      clear r_m11 c_m11_0 c_m11_1 c_m11_2 c_m11_3 c_m11_4 c_m11_5 c_m11_6 r_y11 c_y11_0 c_y11_1 c_y11_2 c_y11_3 c_y11_4 c_y11_5 c_y11_6 r_z11 c_z11_0 c_z11_1 c_z11_2 c_z11_3 c_z11_4 c_z11_5 c_z11_6 o_p11 o_b11 o_x11
      have n_k : (m.k == m.k) = true := by simp
      have n_f : (m.f == m.f) = true := by simp
      have n_t : (m.t == m.t) = true := by simp
      have n_n : (m.n == m.n) = true := by simp
      have e1 : ∀ W, (binOp .eql 25 (.agg #[.int .i64 m.h.n, .string m.h.r]) (.agg #[.int .i64 m.h.n, .string m.h.r])).run Try.prog W = .ok (.bool true) W := fun W => by have h9 := eqlH W m.h m.h; rw [(eqH_iff _ _).2 rfl] at h9; exact h9
      have e2 : ∀ W op y z xs ys, _ := fun W op y z xs ys => grdH W op y z xs ys
      go_wp2_with fail
      rw [HW12.out]
      clear a_m11_0 a_m11_1 a_m11_2 a_m11_3 a_m11_4 a_m11_5 a_m11_6 a_y11_0 a_y11_1 a_y11_2 a_y11_3 a_y11_4 a_y11_5 a_y11_6 a_z11_0 a_z11_1 a_z11_2 a_z11_3 a_z11_4 a_z11_5 a_z11_6
      refine (same_true W12 _ _ m.x o_x12.out.sl o_p12.out.sl (by omega)).mono ?_
      rintro e W13 ⟨rfl, h13, _⟩
      have b13 : Below W12.heap.size W12 W13 := h13 _
      clear h13
      have z13 : W12.heap.size ≤ W13.heap.size := b13.size
      have B13 : Hid (Below w.heap.size w W13) := B12.out.trans (b13.mono B12.out.size)
      have r_m13 : Hid (W13.heap[W1.heap.size]? = some (.cells #[.int .i64 m.k, .int .i64 m.f, .int .i64 m.t, .int .i64 m.h.n, .string m.h.r, .int .i64 m.n, .slice ao_p L_p cap_p] 28 (0, 0))) := rowKeep r_m12.out b13
      have r_y13 : Hid (W13.heap[W5.heap.size]? = some (.cells #[.int .i64 y.k, .int .i64 y.f, .int .i64 y.t, .int .i64 y.h.n, .string y.h.r, .int .i64 y.n, .slice ao_y L_y cap_y] 28 (0, 0))) := rowKeep r_y12.out b13
      have r_z13 : Hid (W13.heap[W7.heap.size]? = some (.cells #[.int .i64 y.k, .int .i64 y.f, .int .i64 y.t, .int .i64 y.h.n, .string y.h.r, .int .i64 y.n, .slice ao_z L_z cap_z] 28 (0, 0))) := rowKeep r_z12.out b13
      have r_x13 : Hid (W13.heap[W11.heap.size]? = some (.cells #[.int .i64 m.k, .int .i64 m.f, .int .i64 m.t, .int .i64 m.h.n, .string m.h.r, .int .i64 m.n, .slice ao_x L_x cap_x] 28 (0, 0))) := rowKeep r_x12.out b13
      have o_p13 : Hid (Own W13 (w.heap.size) (W1.heap.size) 9 (.slice ao_p L_p cap_p) (ss m.x)) := Own.later o_p12.out b13 (by omega)
      have o_b13 : Hid (Own W13 (W2.heap.size) (W3.heap.size) 5 (.slice ao_b P.length cap_b) (bs P)) := Own.later o_b12.out b13 (by omega)
      have o_x13 : Hid (Own W13 (W10.heap.size) (W11.heap.size) 9 (.slice ao_x L_x cap_x) (ss m.x)) := Own.later o_x12.out b13 (by omega)
      have c_m13_0 : W13.cell? ⟨W1.heap.size, 0, none⟩ = some (.int .i64 m.k) := row_at r_m13.out 0
      have c_m13_1 : W13.cell? ⟨W1.heap.size, 1, none⟩ = some (.int .i64 m.f) := row_at r_m13.out 1
      have c_m13_2 : W13.cell? ⟨W1.heap.size, 2, none⟩ = some (.int .i64 m.t) := row_at r_m13.out 2
      have c_m13_3 : W13.cell? ⟨W1.heap.size, 3, none⟩ = some (.int .i64 m.h.n) := row_at r_m13.out 3
      have c_m13_4 : W13.cell? ⟨W1.heap.size, 4, none⟩ = some (.string m.h.r) := row_at r_m13.out 4
      have c_m13_5 : W13.cell? ⟨W1.heap.size, 5, none⟩ = some (.int .i64 m.n) := row_at r_m13.out 5
      have c_m13_6 : W13.cell? ⟨W1.heap.size, 6, none⟩ = some (.slice ao_p L_p cap_p) := row_at r_m13.out 6
      have c_y13_0 : W13.cell? ⟨W5.heap.size, 0, none⟩ = some (.int .i64 y.k) := row_at r_y13.out 0
      have c_y13_1 : W13.cell? ⟨W5.heap.size, 1, none⟩ = some (.int .i64 y.f) := row_at r_y13.out 1
      have c_y13_2 : W13.cell? ⟨W5.heap.size, 2, none⟩ = some (.int .i64 y.t) := row_at r_y13.out 2
      have c_y13_3 : W13.cell? ⟨W5.heap.size, 3, none⟩ = some (.int .i64 y.h.n) := row_at r_y13.out 3
      have c_y13_4 : W13.cell? ⟨W5.heap.size, 4, none⟩ = some (.string y.h.r) := row_at r_y13.out 4
      have c_y13_5 : W13.cell? ⟨W5.heap.size, 5, none⟩ = some (.int .i64 y.n) := row_at r_y13.out 5
      have c_y13_6 : W13.cell? ⟨W5.heap.size, 6, none⟩ = some (.slice ao_y L_y cap_y) := row_at r_y13.out 6
      have c_z13_0 : W13.cell? ⟨W7.heap.size, 0, none⟩ = some (.int .i64 y.k) := row_at r_z13.out 0
      have c_z13_1 : W13.cell? ⟨W7.heap.size, 1, none⟩ = some (.int .i64 y.f) := row_at r_z13.out 1
      have c_z13_2 : W13.cell? ⟨W7.heap.size, 2, none⟩ = some (.int .i64 y.t) := row_at r_z13.out 2
      have c_z13_3 : W13.cell? ⟨W7.heap.size, 3, none⟩ = some (.int .i64 y.h.n) := row_at r_z13.out 3
      have c_z13_4 : W13.cell? ⟨W7.heap.size, 4, none⟩ = some (.string y.h.r) := row_at r_z13.out 4
      have c_z13_5 : W13.cell? ⟨W7.heap.size, 5, none⟩ = some (.int .i64 y.n) := row_at r_z13.out 5
      have c_z13_6 : W13.cell? ⟨W7.heap.size, 6, none⟩ = some (.slice ao_z L_z cap_z) := row_at r_z13.out 6
      have c_x13_0 : W13.cell? ⟨W11.heap.size, 0, none⟩ = some (.int .i64 m.k) := row_at r_x13.out 0
      have c_x13_1 : W13.cell? ⟨W11.heap.size, 1, none⟩ = some (.int .i64 m.f) := row_at r_x13.out 1
      have c_x13_2 : W13.cell? ⟨W11.heap.size, 2, none⟩ = some (.int .i64 m.t) := row_at r_x13.out 2
      have c_x13_3 : W13.cell? ⟨W11.heap.size, 3, none⟩ = some (.int .i64 m.h.n) := row_at r_x13.out 3
      have c_x13_4 : W13.cell? ⟨W11.heap.size, 4, none⟩ = some (.string m.h.r) := row_at r_x13.out 4
      have c_x13_5 : W13.cell? ⟨W11.heap.size, 5, none⟩ = some (.int .i64 m.n) := row_at r_x13.out 5
      have c_x13_6 : W13.cell? ⟨W11.heap.size, 6, none⟩ = some (.slice ao_x L_x cap_x) := row_at r_x13.out 6
      clear r_m12 c_m12_0 c_m12_1 c_m12_2 c_m12_3 c_m12_4 c_m12_5 c_m12_6 r_y12 c_y12_0 c_y12_1 c_y12_2 c_y12_3 c_y12_4 c_y12_5 c_y12_6 r_z12 c_z12_0 c_z12_1 c_z12_2 c_z12_3 c_z12_4 c_z12_5 c_z12_6 r_x12 c_x12_0 c_x12_1 c_x12_2 c_x12_3 c_x12_4 c_x12_5 c_x12_6 o_p12 o_b12 o_x12
      go_wp2
      go_ret
      exact ⟨rfl, B13.out⟩
  · obtain ⟨g1, g2, g3⟩ := HGE.out rfl
    have q6 : ∀ W v1, Below w.heap.size w W → Sl W v1 (ss y.x) → _ := fun W v1 hW h1 => iPut W hW v1 y h1 (by omega) g2 g3
    simp only [g1] at q6
    obtain ⟨C, hC⟩ : ∃ C, Plain.txt cb = C := ⟨_, rfl⟩
    have HCC : Hid (Plain.txt cb = C) := hC
    have nD : (C.toList == C.toList) = true := by simp
    have nC : (C.toList != C.toList) = false := by simp
    clear g1 g2 g3 hC HGE
    go_wp2_with fail
    rw [HW8.out]
    clear a_m7_0 a_m7_1 a_m7_2 a_m7_3 a_m7_4 a_m7_5 a_m7_6 a_y7_0 a_y7_1 a_y7_2 a_y7_3 a_y7_4 a_y7_5 a_y7_6
    refine wp_region_held_drew (S := fun w' => w'.cell? ⟨W1.heap.size, 0, none⟩ = some (.int .i64 m.k) ∧ w'.cell? ⟨W1.heap.size, 1, none⟩ = some (.int .i64 m.f) ∧ w'.cell? ⟨W1.heap.size, 2, none⟩ = some (.int .i64 m.t) ∧ w'.cell? ⟨W1.heap.size, 3, none⟩ = some (.int .i64 m.h.n) ∧ w'.cell? ⟨W1.heap.size, 4, none⟩ = some (.string m.h.r) ∧ w'.cell? ⟨W1.heap.size, 5, none⟩ = some (.int .i64 m.n) ∧ w'.cell? ⟨W1.heap.size, 6, none⟩ = some (.slice ao_p L_p cap_p) ∧ w'.cell? ⟨W5.heap.size, 0, none⟩ = some (.int .i64 y.k) ∧ w'.cell? ⟨W5.heap.size, 1, none⟩ = some (.int .i64 y.f) ∧ w'.cell? ⟨W5.heap.size, 2, none⟩ = some (.int .i64 y.t) ∧ w'.cell? ⟨W5.heap.size, 3, none⟩ = some (.int .i64 y.h.n) ∧ w'.cell? ⟨W5.heap.size, 4, none⟩ = some (.string y.h.r) ∧ w'.cell? ⟨W5.heap.size, 5, none⟩ = some (.int .i64 y.n) ∧ w'.cell? ⟨W5.heap.size, 6, none⟩ = some (.slice ao_y L_y cap_y)) (by kernel_rfl) ⟨c_m8_0, c_m8_1, c_m8_2, c_m8_3, c_m8_4, c_m8_5, c_m8_6, c_y8_0, c_y8_1, c_y8_2, c_y8_3, c_y8_4, c_y8_5, c_y8_6⟩ (fun hHeld => ?_)
    obtain ⟨W9, HW9, b9⟩ : ∃ X, Hid (W8.drew = X) ∧ Below W8.heap.size W8 X := ⟨_, rfl, Below.drew (Below.refl _ _)⟩
    have HHW9 := HW9.out
    rw [HHW9] at hHeld ⊢
    clear HHW9
    have z9 : W8.heap.size ≤ W9.heap.size := b9.size
    have B9 : Hid (Below w.heap.size w W9) := B8.out.trans (b9.mono B8.out.size)
    have r_m9 : Hid (W9.heap[W1.heap.size]? = some (.cells #[.int .i64 m.k, .int .i64 m.f, .int .i64 m.t, .int .i64 m.h.n, .string m.h.r, .int .i64 m.n, .slice ao_p L_p cap_p] 28 (0, 0))) := rowKeep r_m8.out b9
    have r_y9 : Hid (W9.heap[W5.heap.size]? = some (.cells #[.int .i64 y.k, .int .i64 y.f, .int .i64 y.t, .int .i64 y.h.n, .string y.h.r, .int .i64 y.n, .slice ao_y L_y cap_y] 28 (0, 0))) := rowKeep r_y8.out b9
    have r_z9 : Hid (W9.heap[W7.heap.size]? = some (.cells #[.int .i64 y.k, .int .i64 y.f, .int .i64 y.t, .int .i64 y.h.n, .string y.h.r, .int .i64 y.n, .slice ao_z L_z cap_z] 28 (0, 0))) := rowKeep r_z8.out b9
    have o_p9 : Hid (Own W9 (w.heap.size) (W1.heap.size) 9 (.slice ao_p L_p cap_p) (ss m.x)) := Own.later o_p8.out b9 (by omega)
    have o_b9 : Hid (Own W9 (W2.heap.size) (W3.heap.size) 5 (.slice ao_b P.length cap_b) (bs P)) := Own.later o_b8.out b9 (by omega)
    have o_y9 : Hid (Own W9 (W4.heap.size) (W5.heap.size) 9 (.slice ao_y L_y cap_y) (ss y.x)) := Own.later o_y8.out b9 (by omega)
    have o_z9 : Hid (Own W9 (W6.heap.size) (W7.heap.size) 9 (.slice ao_z L_z cap_z) (ss y.x)) := Own.later o_z8.out b9 (by omega)
    have c_m9_0 : W9.cell? ⟨W1.heap.size, 0, none⟩ = some (.int .i64 m.k) := row_at r_m9.out 0
    have c_m9_1 : W9.cell? ⟨W1.heap.size, 1, none⟩ = some (.int .i64 m.f) := row_at r_m9.out 1
    have c_m9_2 : W9.cell? ⟨W1.heap.size, 2, none⟩ = some (.int .i64 m.t) := row_at r_m9.out 2
    have c_m9_3 : W9.cell? ⟨W1.heap.size, 3, none⟩ = some (.int .i64 m.h.n) := row_at r_m9.out 3
    have c_m9_4 : W9.cell? ⟨W1.heap.size, 4, none⟩ = some (.string m.h.r) := row_at r_m9.out 4
    have c_m9_5 : W9.cell? ⟨W1.heap.size, 5, none⟩ = some (.int .i64 m.n) := row_at r_m9.out 5
    have c_m9_6 : W9.cell? ⟨W1.heap.size, 6, none⟩ = some (.slice ao_p L_p cap_p) := row_at r_m9.out 6
    have c_y9_0 : W9.cell? ⟨W5.heap.size, 0, none⟩ = some (.int .i64 y.k) := row_at r_y9.out 0
    have c_y9_1 : W9.cell? ⟨W5.heap.size, 1, none⟩ = some (.int .i64 y.f) := row_at r_y9.out 1
    have c_y9_2 : W9.cell? ⟨W5.heap.size, 2, none⟩ = some (.int .i64 y.t) := row_at r_y9.out 2
    have c_y9_3 : W9.cell? ⟨W5.heap.size, 3, none⟩ = some (.int .i64 y.h.n) := row_at r_y9.out 3
    have c_y9_4 : W9.cell? ⟨W5.heap.size, 4, none⟩ = some (.string y.h.r) := row_at r_y9.out 4
    have c_y9_5 : W9.cell? ⟨W5.heap.size, 5, none⟩ = some (.int .i64 y.n) := row_at r_y9.out 5
    have c_y9_6 : W9.cell? ⟨W5.heap.size, 6, none⟩ = some (.slice ao_y L_y cap_y) := row_at r_y9.out 6
    have c_z9_0 : W9.cell? ⟨W7.heap.size, 0, none⟩ = some (.int .i64 y.k) := row_at r_z9.out 0
    have c_z9_1 : W9.cell? ⟨W7.heap.size, 1, none⟩ = some (.int .i64 y.f) := row_at r_z9.out 1
    have c_z9_2 : W9.cell? ⟨W7.heap.size, 2, none⟩ = some (.int .i64 y.t) := row_at r_z9.out 2
    have c_z9_3 : W9.cell? ⟨W7.heap.size, 3, none⟩ = some (.int .i64 y.h.n) := row_at r_z9.out 3
    have c_z9_4 : W9.cell? ⟨W7.heap.size, 4, none⟩ = some (.string y.h.r) := row_at r_z9.out 4
    have c_z9_5 : W9.cell? ⟨W7.heap.size, 5, none⟩ = some (.int .i64 y.n) := row_at r_z9.out 5
    have c_z9_6 : W9.cell? ⟨W7.heap.size, 6, none⟩ = some (.slice ao_z L_z cap_z) := row_at r_z9.out 6
    clear r_m8 c_m8_0 c_m8_1 c_m8_2 c_m8_3 c_m8_4 c_m8_5 c_m8_6 r_y8 c_y8_0 c_y8_1 c_y8_2 c_y8_3 c_y8_4 c_y8_5 c_y8_6 r_z8 c_z8_0 c_z8_1 c_z8_2 c_z8_3 c_z8_4 c_z8_5 c_z8_6 o_p8 o_b8 o_y8 o_z8
    have f_c9 : Hid (Sl W9 (.slice ao_c cb.length cap_c) (bs cb)) := Sl.later f_c8.out b9
    clear f_c8
    (refine wpAnyH_take (i := 0) (v := ?v0x40) rfl (by kernel_rfl) (by kernel_rfl) (by kernel_rfl) (fun _ _ _ h => h) (Or.inl ⟨by rfl, ?hy0x40⟩) (by assumption) ?rest0x40; case hy0x40 => (intro w hSw; (try dsimp only at hSw); go_split_ands; go_simp; (try with_reducible rfl)))
    try simp only [Act.put, List.setIfInBounds_toArray, List.set_cons_zero, List.set_cons_succ, List.getElem_toArray, List.getElem_cons_zero, List.getElem_cons_succ]
    (refine wpAnyH_take (i := 1) (v := ?v1x41) rfl (by kernel_rfl) (by kernel_rfl) (by kernel_rfl) (fun _ _ _ h => h) (Or.inl ⟨by rfl, ?hy1x41⟩) (by assumption) ?rest1x41; case hy1x41 => (intro w hSw; (try dsimp only at hSw); go_split_ands; go_simp; (try with_reducible rfl)))
    try simp only [Act.put, List.setIfInBounds_toArray, List.set_cons_zero, List.set_cons_succ, List.getElem_toArray, List.getElem_cons_zero, List.getElem_cons_succ]
    (refine wpAnyH_take (i := 2) (v := ?v2x42) rfl (by kernel_rfl) (by kernel_rfl) (by kernel_rfl) (fun _ _ _ h => h) (Or.inl ⟨by rfl, ?hy2x42⟩) (by assumption) ?rest2x42; case hy2x42 => (intro w hSw; (try dsimp only at hSw); go_split_ands; go_simp; (try with_reducible rfl)))
    try simp only [Act.put, List.setIfInBounds_toArray, List.set_cons_zero, List.set_cons_succ, List.getElem_toArray, List.getElem_cons_zero, List.getElem_cons_succ]
    (refine wpAnyH_take (i := 3) (v := ?v3x43) rfl (by kernel_rfl) (by kernel_rfl) (by kernel_rfl) (fun _ _ _ h => h) (Or.inl ⟨by rfl, ?hy3x43⟩) (by assumption) ?rest3x43; case hy3x43 => (intro w hSw; (try dsimp only at hSw); go_split_ands; go_simp; (try with_reducible rfl)))
    try simp only [Act.put, List.setIfInBounds_toArray, List.set_cons_zero, List.set_cons_succ, List.getElem_toArray, List.getElem_cons_zero, List.getElem_cons_succ]
    (refine wpAnyH_take (i := 4) (v := ?v4x44) rfl (by kernel_rfl) (by kernel_rfl) (by kernel_rfl) (fun _ _ _ h => h) (Or.inl ⟨by rfl, ?hy4x44⟩) (by assumption) ?rest4x44; case hy4x44 => (intro w hSw; (try dsimp only at hSw); go_split_ands; go_simp; (try with_reducible rfl)))
    try simp only [Act.put, List.setIfInBounds_toArray, List.set_cons_zero, List.set_cons_succ, List.getElem_toArray, List.getElem_cons_zero, List.getElem_cons_succ]
    (refine wpAnyH_take (i := 5) (v := ?v5x45) rfl (by kernel_rfl) (by kernel_rfl) (by kernel_rfl) (fun _ _ _ h => h) (Or.inl ⟨by rfl, ?hy5x45⟩) (by assumption) ?rest5x45; case hy5x45 => (intro w hSw; (try dsimp only at hSw); go_split_ands; go_simp; (try with_reducible rfl)))
    try simp only [Act.put, List.setIfInBounds_toArray, List.set_cons_zero, List.set_cons_succ, List.getElem_toArray, List.getElem_cons_zero, List.getElem_cons_succ]
    (refine wpAnyH_take (i := 6) (v := ?v6x46) rfl (by kernel_rfl) (by kernel_rfl) (by kernel_rfl) (fun _ _ _ h => h) (Or.inl ⟨by rfl, ?hy6x46⟩) (by assumption) ?rest6x46; case hy6x46 => (intro w hSw; (try dsimp only at hSw); go_split_ands; go_simp; (try with_reducible rfl)))
    try simp only [Act.put, List.setIfInBounds_toArray, List.set_cons_zero, List.set_cons_succ, List.getElem_toArray, List.getElem_cons_zero, List.getElem_cons_succ]
    (refine wpAnyH_take (i := 9) (v := ?v9x47) rfl (by kernel_rfl) (by kernel_rfl) (by kernel_rfl) (fun _ _ _ h => h) (Or.inl ⟨by rfl, ?hy9x47⟩) (by assumption) ?rest9x47; case hy9x47 => (intro w hSw; (try dsimp only at hSw); go_split_ands; go_simp; (try with_reducible rfl)))
    try simp only [Act.put, List.setIfInBounds_toArray, List.set_cons_zero, List.set_cons_succ, List.getElem_toArray, List.getElem_cons_zero, List.getElem_cons_succ]
    refine wpAnyH_ready (rs := [7, 10]) (by kernel_rfl) (by simp) ?_
    refine AllReadyH.cons rfl (fun K hK => ?_) (AllReadyH.cons rfl (fun K hK => ?_) AllReadyH.nil)
    · go_simp
      refine (q6 W9 _ B9.out o_y9.out.sl).mono ?_
      rintro e W10 ⟨v_u, rfl, o_u10, b10⟩
      refine hK.out _ _ ⟨(keepR (W := W9) hHeld.1 b10), (keepR (W := W9) hHeld.2.1 b10), (keepR (W := W9) hHeld.2.2.1 b10), (keepR (W := W9) hHeld.2.2.2.1 b10), (keepR (W := W9) hHeld.2.2.2.2.1 b10), (keepR (W := W9) hHeld.2.2.2.2.2.1 b10), (keepR (W := W9) hHeld.2.2.2.2.2.2.1 b10), (keepR (W := W9) hHeld.2.2.2.2.2.2.2.1 b10), (keepR (W := W9) hHeld.2.2.2.2.2.2.2.2.1 b10), (keepR (W := W9) hHeld.2.2.2.2.2.2.2.2.2.1 b10), (keepR (W := W9) hHeld.2.2.2.2.2.2.2.2.2.2.1 b10), (keepR (W := W9) hHeld.2.2.2.2.2.2.2.2.2.2.2.1 b10), (keepR (W := W9) hHeld.2.2.2.2.2.2.2.2.2.2.2.2.1 b10), (keepR (W := W9) hHeld.2.2.2.2.2.2.2.2.2.2.2.2.2 b10)⟩ (fun hHeld => ?_)
      clear hK K
      try simp only [Act.put, List.setIfInBounds_toArray, List.set_cons_zero, List.set_cons_succ, List.getElem_toArray, List.getElem_cons_zero, List.getElem_cons_succ]
      obtain ⟨ao_u, L_u, cap_u, rfl, hL_u, hM_u⟩ := o_u10.form
      have o_u10 : Hid (Own W10 W9.heap.size W10.heap.size 5 (.slice ao_u L_u cap_u) (bs cb)) := o_u10
      clear hL_u hM_u
      have z10 : W9.heap.size ≤ W10.heap.size := b10.size
      have B10 : Hid (Below w.heap.size w W10) := B9.out.trans (b10.mono B9.out.size)
      have r_m10 : Hid (W10.heap[W1.heap.size]? = some (.cells #[.int .i64 m.k, .int .i64 m.f, .int .i64 m.t, .int .i64 m.h.n, .string m.h.r, .int .i64 m.n, .slice ao_p L_p cap_p] 28 (0, 0))) := rowKeep r_m9.out b10
      have r_y10 : Hid (W10.heap[W5.heap.size]? = some (.cells #[.int .i64 y.k, .int .i64 y.f, .int .i64 y.t, .int .i64 y.h.n, .string y.h.r, .int .i64 y.n, .slice ao_y L_y cap_y] 28 (0, 0))) := rowKeep r_y9.out b10
      have r_z10 : Hid (W10.heap[W7.heap.size]? = some (.cells #[.int .i64 y.k, .int .i64 y.f, .int .i64 y.t, .int .i64 y.h.n, .string y.h.r, .int .i64 y.n, .slice ao_z L_z cap_z] 28 (0, 0))) := rowKeep r_z9.out b10
      have o_p10 : Hid (Own W10 (w.heap.size) (W1.heap.size) 9 (.slice ao_p L_p cap_p) (ss m.x)) := Own.later o_p9.out b10 (by omega)
      have o_b10 : Hid (Own W10 (W2.heap.size) (W3.heap.size) 5 (.slice ao_b P.length cap_b) (bs P)) := Own.later o_b9.out b10 (by omega)
      have o_y10 : Hid (Own W10 (W4.heap.size) (W5.heap.size) 9 (.slice ao_y L_y cap_y) (ss y.x)) := Own.later o_y9.out b10 (by omega)
      have o_z10 : Hid (Own W10 (W6.heap.size) (W7.heap.size) 9 (.slice ao_z L_z cap_z) (ss y.x)) := Own.later o_z9.out b10 (by omega)
      have c_m10_0 : W10.cell? ⟨W1.heap.size, 0, none⟩ = some (.int .i64 m.k) := row_at r_m10.out 0
      have c_m10_1 : W10.cell? ⟨W1.heap.size, 1, none⟩ = some (.int .i64 m.f) := row_at r_m10.out 1
      have c_m10_2 : W10.cell? ⟨W1.heap.size, 2, none⟩ = some (.int .i64 m.t) := row_at r_m10.out 2
      have c_m10_3 : W10.cell? ⟨W1.heap.size, 3, none⟩ = some (.int .i64 m.h.n) := row_at r_m10.out 3
      have c_m10_4 : W10.cell? ⟨W1.heap.size, 4, none⟩ = some (.string m.h.r) := row_at r_m10.out 4
      have c_m10_5 : W10.cell? ⟨W1.heap.size, 5, none⟩ = some (.int .i64 m.n) := row_at r_m10.out 5
      have c_m10_6 : W10.cell? ⟨W1.heap.size, 6, none⟩ = some (.slice ao_p L_p cap_p) := row_at r_m10.out 6
      have c_y10_0 : W10.cell? ⟨W5.heap.size, 0, none⟩ = some (.int .i64 y.k) := row_at r_y10.out 0
      have c_y10_1 : W10.cell? ⟨W5.heap.size, 1, none⟩ = some (.int .i64 y.f) := row_at r_y10.out 1
      have c_y10_2 : W10.cell? ⟨W5.heap.size, 2, none⟩ = some (.int .i64 y.t) := row_at r_y10.out 2
      have c_y10_3 : W10.cell? ⟨W5.heap.size, 3, none⟩ = some (.int .i64 y.h.n) := row_at r_y10.out 3
      have c_y10_4 : W10.cell? ⟨W5.heap.size, 4, none⟩ = some (.string y.h.r) := row_at r_y10.out 4
      have c_y10_5 : W10.cell? ⟨W5.heap.size, 5, none⟩ = some (.int .i64 y.n) := row_at r_y10.out 5
      have c_y10_6 : W10.cell? ⟨W5.heap.size, 6, none⟩ = some (.slice ao_y L_y cap_y) := row_at r_y10.out 6
      have c_z10_0 : W10.cell? ⟨W7.heap.size, 0, none⟩ = some (.int .i64 y.k) := row_at r_z10.out 0
      have c_z10_1 : W10.cell? ⟨W7.heap.size, 1, none⟩ = some (.int .i64 y.f) := row_at r_z10.out 1
      have c_z10_2 : W10.cell? ⟨W7.heap.size, 2, none⟩ = some (.int .i64 y.t) := row_at r_z10.out 2
      have c_z10_3 : W10.cell? ⟨W7.heap.size, 3, none⟩ = some (.int .i64 y.h.n) := row_at r_z10.out 3
      have c_z10_4 : W10.cell? ⟨W7.heap.size, 4, none⟩ = some (.string y.h.r) := row_at r_z10.out 4
      have c_z10_5 : W10.cell? ⟨W7.heap.size, 5, none⟩ = some (.int .i64 y.n) := row_at r_z10.out 5
      have c_z10_6 : W10.cell? ⟨W7.heap.size, 6, none⟩ = some (.slice ao_z L_z cap_z) := row_at r_z10.out 6
      clear r_m9 c_m9_0 c_m9_1 c_m9_2 c_m9_3 c_m9_4 c_m9_5 c_m9_6 r_y9 c_y9_0 c_y9_1 c_y9_2 c_y9_3 c_y9_4 c_y9_5 c_y9_6 r_z9 c_z9_0 c_z9_1 c_z9_2 c_z9_3 c_z9_4 c_z9_5 c_z9_6 o_p9 o_b9 o_y9 o_z9
      have f_c10 : Hid (Sl W10 (.slice ao_c cb.length cap_c) (bs cb)) := Sl.later f_c9.out b10
      clear f_c9
      obtain rfl : L_u = cb.length := by obtain ⟨a9, L9, c9, he, h1, h2⟩ := Mem.Own.form o_u10.out; injection he with _ he2 _; rw [bs_len] at h1 h2; omega
      refine wpAnyH_ready (rs := [8, 10]) (by kernel_rfl) (by simp) ?_
      refine AllReadyH.cons rfl (fun K hK => ?_) (AllReadyH.cons rfl (fun K hK => ?_) AllReadyH.nil)
      · have cv : (convert 22 9 (.slice ao_u cb.length cap_u)).run Try.prog W10 = .ok (.string C) W10 := by have h9 := conv_sl (o_u10.out.sl) HCB.out; rw [HCC.out] at h9; exact h9
        go_simp
        refine hK.out _ _ ⟨hHeld.1, hHeld.2.1, hHeld.2.2.1, hHeld.2.2.2.1, hHeld.2.2.2.2.1, hHeld.2.2.2.2.2.1, hHeld.2.2.2.2.2.2.1, hHeld.2.2.2.2.2.2.2.1, hHeld.2.2.2.2.2.2.2.2.1, hHeld.2.2.2.2.2.2.2.2.2.1, hHeld.2.2.2.2.2.2.2.2.2.2.1, hHeld.2.2.2.2.2.2.2.2.2.2.2.1, hHeld.2.2.2.2.2.2.2.2.2.2.2.2.1, hHeld.2.2.2.2.2.2.2.2.2.2.2.2.2⟩ (fun hHeld => ?_)
        clear hK K cv
        try simp only [Act.put, List.setIfInBounds_toArray, List.set_cons_zero, List.set_cons_succ, List.getElem_toArray, List.getElem_cons_zero, List.getElem_cons_succ]
        refine wpAnyH_ready (rs := [10]) (by kernel_rfl) (by simp) ?_
        refine AllReadyH.cons rfl (fun K hK => ?_) AllReadyH.nil
        have cv : (convert 22 9 (.slice ao_c cb.length cap_c)).run Try.prog W10 = .ok (.string C) W10 := by have h9 := conv_sl (f_c10.out) HCB.out; rw [HCC.out] at h9; exact h9
        go_simp
        refine hK.out _ _ ⟨hHeld.1, hHeld.2.1, hHeld.2.2.1, hHeld.2.2.2.1, hHeld.2.2.2.2.1, hHeld.2.2.2.2.2.1, hHeld.2.2.2.2.2.2.1, hHeld.2.2.2.2.2.2.2.1, hHeld.2.2.2.2.2.2.2.2.1, hHeld.2.2.2.2.2.2.2.2.2.1, hHeld.2.2.2.2.2.2.2.2.2.2.1, hHeld.2.2.2.2.2.2.2.2.2.2.2.1, hHeld.2.2.2.2.2.2.2.2.2.2.2.2.1, hHeld.2.2.2.2.2.2.2.2.2.2.2.2.2⟩ (fun hHeld => ?_)
        clear hK K cv
        try simp only [Act.put, List.setIfInBounds_toArray, List.set_cons_zero, List.set_cons_succ, List.getElem_toArray, List.getElem_cons_zero, List.getElem_cons_succ]
        (refine wpAnyH_take (i := 11) (v := ?v11x48) rfl (by kernel_rfl) (by kernel_rfl) (by kernel_rfl) (fun _ _ _ h => h) (Or.inl ⟨by rfl, ?hy11x48⟩) (by assumption) ?rest11x48; case hy11x48 => (intro w hSw; (try dsimp only at hSw); go_split_ands; go_simp; (try with_reducible rfl)))
        try simp only [Act.put, List.setIfInBounds_toArray, List.set_cons_zero, List.set_cons_succ, List.getElem_toArray, List.getElem_cons_zero, List.getElem_cons_succ]
        (refine wpAnyH_take (i := 12) (v := ?v12x49) rfl (by kernel_rfl) (by kernel_rfl) (by kernel_rfl) (fun _ _ _ h => h) (Or.inl ⟨by rfl, ?hy12x49⟩) (by assumption) ?rest12x49; case hy12x49 => (intro w hSw; (try dsimp only at hSw); go_split_ands; go_simp; (try with_reducible rfl)))
        try simp only [Act.put, List.setIfInBounds_toArray, List.set_cons_zero, List.set_cons_succ, List.getElem_toArray, List.getElem_cons_zero, List.getElem_cons_succ]
        (refine wpAnyH_take (i := 13) (v := ?v13x50) rfl (by kernel_rfl) (by kernel_rfl) (by kernel_rfl) (fun _ _ _ h => h) (Or.inl ⟨by rfl, ?hy13x50⟩) (by assumption) ?rest13x50; case hy13x50 => (intro w hSw; (try dsimp only at hSw); go_split_ands; go_simp; (try with_reducible rfl)))
        try simp only [Act.put, List.setIfInBounds_toArray, List.set_cons_zero, List.set_cons_succ, List.getElem_toArray, List.getElem_cons_zero, List.getElem_cons_succ]
        refine wpAnyH_done (by kernel_rfl) ?_ _
        clear hHeld
        clear o_u10
        clear o_y10
        clear o_z10
        clear f_c10
        have q3 : ∀ W v1, Sl W v1 (ss m.x) → _ := fun W v1 h1 => msgok_spec W v1 m h1 (by omega)
        have q4 : ∀ W v1, Below w.heap.size w W → Sl W v1 (ss m.x) → _ := fun W v1 hW h1 => iOk W hW v1 m h1 (by omega) HSZ.out (by omega)
        obtain ⟨A, hA⟩ : ∃ A, msgOk m = A := ⟨_, rfl⟩
        simp only [hA] at q3 q4
        have HA : Hid (msgOk m = A) := hA
        clear hA
        go_wp2_with fail
        refine (q3 W10 _ o_p10.out.sl).mono ?_
        rintro e W11 ⟨rfl, b11⟩
        have z11 : W10.heap.size ≤ W11.heap.size := b11.size
        have B11 : Hid (Below w.heap.size w W11) := B10.out.trans (b11.mono B10.out.size)
        have r_m11 : Hid (W11.heap[W1.heap.size]? = some (.cells #[.int .i64 m.k, .int .i64 m.f, .int .i64 m.t, .int .i64 m.h.n, .string m.h.r, .int .i64 m.n, .slice ao_p L_p cap_p] 28 (0, 0))) := rowKeep r_m10.out b11
        have r_y11 : Hid (W11.heap[W5.heap.size]? = some (.cells #[.int .i64 y.k, .int .i64 y.f, .int .i64 y.t, .int .i64 y.h.n, .string y.h.r, .int .i64 y.n, .slice ao_y L_y cap_y] 28 (0, 0))) := rowKeep r_y10.out b11
        have r_z11 : Hid (W11.heap[W7.heap.size]? = some (.cells #[.int .i64 y.k, .int .i64 y.f, .int .i64 y.t, .int .i64 y.h.n, .string y.h.r, .int .i64 y.n, .slice ao_z L_z cap_z] 28 (0, 0))) := rowKeep r_z10.out b11
        have o_p11 : Hid (Own W11 (w.heap.size) (W1.heap.size) 9 (.slice ao_p L_p cap_p) (ss m.x)) := Own.later o_p10.out b11 (by omega)
        have o_b11 : Hid (Own W11 (W2.heap.size) (W3.heap.size) 5 (.slice ao_b P.length cap_b) (bs P)) := Own.later o_b10.out b11 (by omega)
        have c_m11_0 : W11.cell? ⟨W1.heap.size, 0, none⟩ = some (.int .i64 m.k) := row_at r_m11.out 0
        have c_m11_1 : W11.cell? ⟨W1.heap.size, 1, none⟩ = some (.int .i64 m.f) := row_at r_m11.out 1
        have c_m11_2 : W11.cell? ⟨W1.heap.size, 2, none⟩ = some (.int .i64 m.t) := row_at r_m11.out 2
        have c_m11_3 : W11.cell? ⟨W1.heap.size, 3, none⟩ = some (.int .i64 m.h.n) := row_at r_m11.out 3
        have c_m11_4 : W11.cell? ⟨W1.heap.size, 4, none⟩ = some (.string m.h.r) := row_at r_m11.out 4
        have c_m11_5 : W11.cell? ⟨W1.heap.size, 5, none⟩ = some (.int .i64 m.n) := row_at r_m11.out 5
        have c_m11_6 : W11.cell? ⟨W1.heap.size, 6, none⟩ = some (.slice ao_p L_p cap_p) := row_at r_m11.out 6
        have c_y11_0 : W11.cell? ⟨W5.heap.size, 0, none⟩ = some (.int .i64 y.k) := row_at r_y11.out 0
        have c_y11_1 : W11.cell? ⟨W5.heap.size, 1, none⟩ = some (.int .i64 y.f) := row_at r_y11.out 1
        have c_y11_2 : W11.cell? ⟨W5.heap.size, 2, none⟩ = some (.int .i64 y.t) := row_at r_y11.out 2
        have c_y11_3 : W11.cell? ⟨W5.heap.size, 3, none⟩ = some (.int .i64 y.h.n) := row_at r_y11.out 3
        have c_y11_4 : W11.cell? ⟨W5.heap.size, 4, none⟩ = some (.string y.h.r) := row_at r_y11.out 4
        have c_y11_5 : W11.cell? ⟨W5.heap.size, 5, none⟩ = some (.int .i64 y.n) := row_at r_y11.out 5
        have c_y11_6 : W11.cell? ⟨W5.heap.size, 6, none⟩ = some (.slice ao_y L_y cap_y) := row_at r_y11.out 6
        have c_z11_0 : W11.cell? ⟨W7.heap.size, 0, none⟩ = some (.int .i64 y.k) := row_at r_z11.out 0
        have c_z11_1 : W11.cell? ⟨W7.heap.size, 1, none⟩ = some (.int .i64 y.f) := row_at r_z11.out 1
        have c_z11_2 : W11.cell? ⟨W7.heap.size, 2, none⟩ = some (.int .i64 y.t) := row_at r_z11.out 2
        have c_z11_3 : W11.cell? ⟨W7.heap.size, 3, none⟩ = some (.int .i64 y.h.n) := row_at r_z11.out 3
        have c_z11_4 : W11.cell? ⟨W7.heap.size, 4, none⟩ = some (.string y.h.r) := row_at r_z11.out 4
        have c_z11_5 : W11.cell? ⟨W7.heap.size, 5, none⟩ = some (.int .i64 y.n) := row_at r_z11.out 5
        have c_z11_6 : W11.cell? ⟨W7.heap.size, 6, none⟩ = some (.slice ao_z L_z cap_z) := row_at r_z11.out 6
        clear r_m10 c_m10_0 c_m10_1 c_m10_2 c_m10_3 c_m10_4 c_m10_5 c_m10_6 r_y10 c_y10_0 c_y10_1 c_y10_2 c_y10_3 c_y10_4 c_y10_5 c_y10_6 r_z10 c_z10_0 c_z10_1 c_z10_2 c_z10_3 c_z10_4 c_z10_5 c_z10_6 o_p10 o_b10
        clear q3
        cases A
        · have e9 : P = [] := by rw [← HP.out]; unfold putM; rw [HA.out]; rfl
          have hp0 : (P.length : Int) = 0 := by rw [e9]; rfl
          have hpb : ((P.length : Int) == 0) = true := by rw [hp0]; rfl
          clear e9
          go_wp2_with fail
          refine (q4 W11 _ B11.out o_p11.out.sl).mono ?_
          rintro e W12 ⟨rfl, b12⟩
          have z12 : W11.heap.size ≤ W12.heap.size := b12.size
          have B12 : Hid (Below w.heap.size w W12) := B11.out.trans (b12.mono B11.out.size)
          have r_m12 : Hid (W12.heap[W1.heap.size]? = some (.cells #[.int .i64 m.k, .int .i64 m.f, .int .i64 m.t, .int .i64 m.h.n, .string m.h.r, .int .i64 m.n, .slice ao_p L_p cap_p] 28 (0, 0))) := rowKeep r_m11.out b12
          have r_y12 : Hid (W12.heap[W5.heap.size]? = some (.cells #[.int .i64 y.k, .int .i64 y.f, .int .i64 y.t, .int .i64 y.h.n, .string y.h.r, .int .i64 y.n, .slice ao_y L_y cap_y] 28 (0, 0))) := rowKeep r_y11.out b12
          have r_z12 : Hid (W12.heap[W7.heap.size]? = some (.cells #[.int .i64 y.k, .int .i64 y.f, .int .i64 y.t, .int .i64 y.h.n, .string y.h.r, .int .i64 y.n, .slice ao_z L_z cap_z] 28 (0, 0))) := rowKeep r_z11.out b12
          have o_p12 : Hid (Own W12 (w.heap.size) (W1.heap.size) 9 (.slice ao_p L_p cap_p) (ss m.x)) := Own.later o_p11.out b12 (by omega)
          have o_b12 : Hid (Own W12 (W2.heap.size) (W3.heap.size) 5 (.slice ao_b P.length cap_b) (bs P)) := Own.later o_b11.out b12 (by omega)
          have c_m12_0 : W12.cell? ⟨W1.heap.size, 0, none⟩ = some (.int .i64 m.k) := row_at r_m12.out 0
          have c_m12_1 : W12.cell? ⟨W1.heap.size, 1, none⟩ = some (.int .i64 m.f) := row_at r_m12.out 1
          have c_m12_2 : W12.cell? ⟨W1.heap.size, 2, none⟩ = some (.int .i64 m.t) := row_at r_m12.out 2
          have c_m12_3 : W12.cell? ⟨W1.heap.size, 3, none⟩ = some (.int .i64 m.h.n) := row_at r_m12.out 3
          have c_m12_4 : W12.cell? ⟨W1.heap.size, 4, none⟩ = some (.string m.h.r) := row_at r_m12.out 4
          have c_m12_5 : W12.cell? ⟨W1.heap.size, 5, none⟩ = some (.int .i64 m.n) := row_at r_m12.out 5
          have c_m12_6 : W12.cell? ⟨W1.heap.size, 6, none⟩ = some (.slice ao_p L_p cap_p) := row_at r_m12.out 6
          have c_y12_0 : W12.cell? ⟨W5.heap.size, 0, none⟩ = some (.int .i64 y.k) := row_at r_y12.out 0
          have c_y12_1 : W12.cell? ⟨W5.heap.size, 1, none⟩ = some (.int .i64 y.f) := row_at r_y12.out 1
          have c_y12_2 : W12.cell? ⟨W5.heap.size, 2, none⟩ = some (.int .i64 y.t) := row_at r_y12.out 2
          have c_y12_3 : W12.cell? ⟨W5.heap.size, 3, none⟩ = some (.int .i64 y.h.n) := row_at r_y12.out 3
          have c_y12_4 : W12.cell? ⟨W5.heap.size, 4, none⟩ = some (.string y.h.r) := row_at r_y12.out 4
          have c_y12_5 : W12.cell? ⟨W5.heap.size, 5, none⟩ = some (.int .i64 y.n) := row_at r_y12.out 5
          have c_y12_6 : W12.cell? ⟨W5.heap.size, 6, none⟩ = some (.slice ao_y L_y cap_y) := row_at r_y12.out 6
          have c_z12_0 : W12.cell? ⟨W7.heap.size, 0, none⟩ = some (.int .i64 y.k) := row_at r_z12.out 0
          have c_z12_1 : W12.cell? ⟨W7.heap.size, 1, none⟩ = some (.int .i64 y.f) := row_at r_z12.out 1
          have c_z12_2 : W12.cell? ⟨W7.heap.size, 2, none⟩ = some (.int .i64 y.t) := row_at r_z12.out 2
          have c_z12_3 : W12.cell? ⟨W7.heap.size, 3, none⟩ = some (.int .i64 y.h.n) := row_at r_z12.out 3
          have c_z12_4 : W12.cell? ⟨W7.heap.size, 4, none⟩ = some (.string y.h.r) := row_at r_z12.out 4
          have c_z12_5 : W12.cell? ⟨W7.heap.size, 5, none⟩ = some (.int .i64 y.n) := row_at r_z12.out 5
          have c_z12_6 : W12.cell? ⟨W7.heap.size, 6, none⟩ = some (.slice ao_z L_z cap_z) := row_at r_z12.out 6
          clear r_m11 c_m11_0 c_m11_1 c_m11_2 c_m11_3 c_m11_4 c_m11_5 c_m11_6 r_y11 c_y11_0 c_y11_1 c_y11_2 c_y11_3 c_y11_4 c_y11_5 c_y11_6 r_z11 c_z11_0 c_z11_1 c_z11_2 c_z11_3 c_z11_4 c_z11_5 c_z11_6 o_p11 o_b11
          go_wp2
          go_ret
          exact ⟨rfl, B12.out⟩
        · have e9 : P = bytesM m := by rw [← HP.out]; unfold putM; rw [HA.out]; rfl
          have g9 := get_putM HA.out (fun s h => Nat.le_trans (HSZ.out s h) (by omega))
          rw [← e9] at g9
          have hPb9 : P.length ≤ 400 := by rw [e9]; exact hbs
          have HPY : Hid (Byt P) := by show Byt P; rw [e9]; exact bytes_byt m
          have q5 : ∀ W v1, Below w.heap.size w W → Sl W v1 (bs P) → _ := fun W v1 hW h1 => iGet W hW v1 P h1 HPY.out (by omega)
          unfold GotM at q5
          simp only [g9] at q5
          clear g9 e9 q4
          go_wp2_with fail
          refine (q5 W11 _ B11.out o_b11.out.sl).mono ?_
          rintro e W12 ⟨v_x, rfl, o_x12, b12⟩
          obtain ⟨ao_x, L_x, cap_x, rfl, hL_x, hM_x⟩ := o_x12.form
          have o_x12 : Hid (Own W12 W11.heap.size W12.heap.size 9 (.slice ao_x L_x cap_x) (ss m.x)) := o_x12
          clear hL_x hM_x
          have z12 : W11.heap.size ≤ W12.heap.size := b12.size
          have B12 : Hid (Below w.heap.size w W12) := B11.out.trans (b12.mono B11.out.size)
          have r_m12 : Hid (W12.heap[W1.heap.size]? = some (.cells #[.int .i64 m.k, .int .i64 m.f, .int .i64 m.t, .int .i64 m.h.n, .string m.h.r, .int .i64 m.n, .slice ao_p L_p cap_p] 28 (0, 0))) := rowKeep r_m11.out b12
          have r_y12 : Hid (W12.heap[W5.heap.size]? = some (.cells #[.int .i64 y.k, .int .i64 y.f, .int .i64 y.t, .int .i64 y.h.n, .string y.h.r, .int .i64 y.n, .slice ao_y L_y cap_y] 28 (0, 0))) := rowKeep r_y11.out b12
          have r_z12 : Hid (W12.heap[W7.heap.size]? = some (.cells #[.int .i64 y.k, .int .i64 y.f, .int .i64 y.t, .int .i64 y.h.n, .string y.h.r, .int .i64 y.n, .slice ao_z L_z cap_z] 28 (0, 0))) := rowKeep r_z11.out b12
          have o_p12 : Hid (Own W12 (w.heap.size) (W1.heap.size) 9 (.slice ao_p L_p cap_p) (ss m.x)) := Own.later o_p11.out b12 (by omega)
          have o_b12 : Hid (Own W12 (W2.heap.size) (W3.heap.size) 5 (.slice ao_b P.length cap_b) (bs P)) := Own.later o_b11.out b12 (by omega)
          have c_m12_0 : W12.cell? ⟨W1.heap.size, 0, none⟩ = some (.int .i64 m.k) := row_at r_m12.out 0
          have c_m12_1 : W12.cell? ⟨W1.heap.size, 1, none⟩ = some (.int .i64 m.f) := row_at r_m12.out 1
          have c_m12_2 : W12.cell? ⟨W1.heap.size, 2, none⟩ = some (.int .i64 m.t) := row_at r_m12.out 2
          have c_m12_3 : W12.cell? ⟨W1.heap.size, 3, none⟩ = some (.int .i64 m.h.n) := row_at r_m12.out 3
          have c_m12_4 : W12.cell? ⟨W1.heap.size, 4, none⟩ = some (.string m.h.r) := row_at r_m12.out 4
          have c_m12_5 : W12.cell? ⟨W1.heap.size, 5, none⟩ = some (.int .i64 m.n) := row_at r_m12.out 5
          have c_m12_6 : W12.cell? ⟨W1.heap.size, 6, none⟩ = some (.slice ao_p L_p cap_p) := row_at r_m12.out 6
          have c_y12_0 : W12.cell? ⟨W5.heap.size, 0, none⟩ = some (.int .i64 y.k) := row_at r_y12.out 0
          have c_y12_1 : W12.cell? ⟨W5.heap.size, 1, none⟩ = some (.int .i64 y.f) := row_at r_y12.out 1
          have c_y12_2 : W12.cell? ⟨W5.heap.size, 2, none⟩ = some (.int .i64 y.t) := row_at r_y12.out 2
          have c_y12_3 : W12.cell? ⟨W5.heap.size, 3, none⟩ = some (.int .i64 y.h.n) := row_at r_y12.out 3
          have c_y12_4 : W12.cell? ⟨W5.heap.size, 4, none⟩ = some (.string y.h.r) := row_at r_y12.out 4
          have c_y12_5 : W12.cell? ⟨W5.heap.size, 5, none⟩ = some (.int .i64 y.n) := row_at r_y12.out 5
          have c_y12_6 : W12.cell? ⟨W5.heap.size, 6, none⟩ = some (.slice ao_y L_y cap_y) := row_at r_y12.out 6
          have c_z12_0 : W12.cell? ⟨W7.heap.size, 0, none⟩ = some (.int .i64 y.k) := row_at r_z12.out 0
          have c_z12_1 : W12.cell? ⟨W7.heap.size, 1, none⟩ = some (.int .i64 y.f) := row_at r_z12.out 1
          have c_z12_2 : W12.cell? ⟨W7.heap.size, 2, none⟩ = some (.int .i64 y.t) := row_at r_z12.out 2
          have c_z12_3 : W12.cell? ⟨W7.heap.size, 3, none⟩ = some (.int .i64 y.h.n) := row_at r_z12.out 3
          have c_z12_4 : W12.cell? ⟨W7.heap.size, 4, none⟩ = some (.string y.h.r) := row_at r_z12.out 4
          have c_z12_5 : W12.cell? ⟨W7.heap.size, 5, none⟩ = some (.int .i64 y.n) := row_at r_z12.out 5
          have c_z12_6 : W12.cell? ⟨W7.heap.size, 6, none⟩ = some (.slice ao_z L_z cap_z) := row_at r_z12.out 6
          clear r_m11 c_m11_0 c_m11_1 c_m11_2 c_m11_3 c_m11_4 c_m11_5 c_m11_6 r_y11 c_y11_0 c_y11_1 c_y11_2 c_y11_3 c_y11_4 c_y11_5 c_y11_6 r_z11 c_z11_0 c_z11_1 c_z11_2 c_z11_3 c_z11_4 c_z11_5 c_z11_6 o_p11 o_b11
          have a_m12_0 : ∀ o, (W12.alloc o).cell? ⟨W1.heap.size, 0, none⟩ = some (.int .i64 m.k) := fun o => keepR c_m12_0 ((Below.refl _ _).alloc (Nat.le_refl _) o)
          have a_m12_1 : ∀ o, (W12.alloc o).cell? ⟨W1.heap.size, 1, none⟩ = some (.int .i64 m.f) := fun o => keepR c_m12_1 ((Below.refl _ _).alloc (Nat.le_refl _) o)
          have a_m12_2 : ∀ o, (W12.alloc o).cell? ⟨W1.heap.size, 2, none⟩ = some (.int .i64 m.t) := fun o => keepR c_m12_2 ((Below.refl _ _).alloc (Nat.le_refl _) o)
          have a_m12_3 : ∀ o, (W12.alloc o).cell? ⟨W1.heap.size, 3, none⟩ = some (.int .i64 m.h.n) := fun o => keepR c_m12_3 ((Below.refl _ _).alloc (Nat.le_refl _) o)
          have a_m12_4 : ∀ o, (W12.alloc o).cell? ⟨W1.heap.size, 4, none⟩ = some (.string m.h.r) := fun o => keepR c_m12_4 ((Below.refl _ _).alloc (Nat.le_refl _) o)
          have a_m12_5 : ∀ o, (W12.alloc o).cell? ⟨W1.heap.size, 5, none⟩ = some (.int .i64 m.n) := fun o => keepR c_m12_5 ((Below.refl _ _).alloc (Nat.le_refl _) o)
          have a_m12_6 : ∀ o, (W12.alloc o).cell? ⟨W1.heap.size, 6, none⟩ = some (.slice ao_p L_p cap_p) := fun o => keepR c_m12_6 ((Below.refl _ _).alloc (Nat.le_refl _) o)
          have a_y12_0 : ∀ o, (W12.alloc o).cell? ⟨W5.heap.size, 0, none⟩ = some (.int .i64 y.k) := fun o => keepR c_y12_0 ((Below.refl _ _).alloc (Nat.le_refl _) o)
          have a_y12_1 : ∀ o, (W12.alloc o).cell? ⟨W5.heap.size, 1, none⟩ = some (.int .i64 y.f) := fun o => keepR c_y12_1 ((Below.refl _ _).alloc (Nat.le_refl _) o)
          have a_y12_2 : ∀ o, (W12.alloc o).cell? ⟨W5.heap.size, 2, none⟩ = some (.int .i64 y.t) := fun o => keepR c_y12_2 ((Below.refl _ _).alloc (Nat.le_refl _) o)
          have a_y12_3 : ∀ o, (W12.alloc o).cell? ⟨W5.heap.size, 3, none⟩ = some (.int .i64 y.h.n) := fun o => keepR c_y12_3 ((Below.refl _ _).alloc (Nat.le_refl _) o)
          have a_y12_4 : ∀ o, (W12.alloc o).cell? ⟨W5.heap.size, 4, none⟩ = some (.string y.h.r) := fun o => keepR c_y12_4 ((Below.refl _ _).alloc (Nat.le_refl _) o)
          have a_y12_5 : ∀ o, (W12.alloc o).cell? ⟨W5.heap.size, 5, none⟩ = some (.int .i64 y.n) := fun o => keepR c_y12_5 ((Below.refl _ _).alloc (Nat.le_refl _) o)
          have a_y12_6 : ∀ o, (W12.alloc o).cell? ⟨W5.heap.size, 6, none⟩ = some (.slice ao_y L_y cap_y) := fun o => keepR c_y12_6 ((Below.refl _ _).alloc (Nat.le_refl _) o)
          have a_z12_0 : ∀ o, (W12.alloc o).cell? ⟨W7.heap.size, 0, none⟩ = some (.int .i64 y.k) := fun o => keepR c_z12_0 ((Below.refl _ _).alloc (Nat.le_refl _) o)
          have a_z12_1 : ∀ o, (W12.alloc o).cell? ⟨W7.heap.size, 1, none⟩ = some (.int .i64 y.f) := fun o => keepR c_z12_1 ((Below.refl _ _).alloc (Nat.le_refl _) o)
          have a_z12_2 : ∀ o, (W12.alloc o).cell? ⟨W7.heap.size, 2, none⟩ = some (.int .i64 y.t) := fun o => keepR c_z12_2 ((Below.refl _ _).alloc (Nat.le_refl _) o)
          have a_z12_3 : ∀ o, (W12.alloc o).cell? ⟨W7.heap.size, 3, none⟩ = some (.int .i64 y.h.n) := fun o => keepR c_z12_3 ((Below.refl _ _).alloc (Nat.le_refl _) o)
          have a_z12_4 : ∀ o, (W12.alloc o).cell? ⟨W7.heap.size, 4, none⟩ = some (.string y.h.r) := fun o => keepR c_z12_4 ((Below.refl _ _).alloc (Nat.le_refl _) o)
          have a_z12_5 : ∀ o, (W12.alloc o).cell? ⟨W7.heap.size, 5, none⟩ = some (.int .i64 y.n) := fun o => keepR c_z12_5 ((Below.refl _ _).alloc (Nat.le_refl _) o)
          have a_z12_6 : ∀ o, (W12.alloc o).cell? ⟨W7.heap.size, 6, none⟩ = some (.slice ao_z L_z cap_z) := fun o => keepR c_z12_6 ((Below.refl _ _).alloc (Nat.le_refl _) o)
          obtain ⟨W13, HW13, b13, y13, hS13, r_x13⟩ : ∃ X, Hid ((W12.alloc (.cells #[.int .i64 m.k, .int .i64 m.f, .int .i64 m.t, .int .i64 m.h.n, .string m.h.r, .int .i64 m.n, .slice ao_x L_x cap_x] 28)) = X) ∧ Below W12.heap.size W12 X ∧ W12.heap.size + 1 ≤ X.heap.size ∧ Hid (X.heap.size = W12.heap.size + 1) ∧ Hid (X.heap[W12.heap.size]? = some (.cells #[.int .i64 m.k, .int .i64 m.f, .int .i64 m.t, .int .i64 m.h.n, .string m.h.r, .int .i64 m.n, .slice ao_x L_x cap_x] 28 (0, 0))) := ⟨_, rfl, ((Below.refl _ _).alloc (Nat.le_refl _) _), by simp, by show _ = _; simp, (by show _ = _; exact alloc_nth1_0 W12 _)⟩
          have z13 : W12.heap.size ≤ W13.heap.size := b13.size
          have B13 : Hid (Below w.heap.size w W13) := B12.out.trans (b13.mono B12.out.size)
          have r_m13 : Hid (W13.heap[W1.heap.size]? = some (.cells #[.int .i64 m.k, .int .i64 m.f, .int .i64 m.t, .int .i64 m.h.n, .string m.h.r, .int .i64 m.n, .slice ao_p L_p cap_p] 28 (0, 0))) := rowKeep r_m12.out b13
          have r_y13 : Hid (W13.heap[W5.heap.size]? = some (.cells #[.int .i64 y.k, .int .i64 y.f, .int .i64 y.t, .int .i64 y.h.n, .string y.h.r, .int .i64 y.n, .slice ao_y L_y cap_y] 28 (0, 0))) := rowKeep r_y12.out b13
          have r_z13 : Hid (W13.heap[W7.heap.size]? = some (.cells #[.int .i64 y.k, .int .i64 y.f, .int .i64 y.t, .int .i64 y.h.n, .string y.h.r, .int .i64 y.n, .slice ao_z L_z cap_z] 28 (0, 0))) := rowKeep r_z12.out b13
          have o_p13 : Hid (Own W13 (w.heap.size) (W1.heap.size) 9 (.slice ao_p L_p cap_p) (ss m.x)) := Own.later o_p12.out b13 (by omega)
          have o_b13 : Hid (Own W13 (W2.heap.size) (W3.heap.size) 5 (.slice ao_b P.length cap_b) (bs P)) := Own.later o_b12.out b13 (by omega)
          have o_x13 : Hid (Own W13 (W11.heap.size) (W12.heap.size) 9 (.slice ao_x L_x cap_x) (ss m.x)) := Own.later o_x12.out b13 (by omega)
          have c_m13_0 : W13.cell? ⟨W1.heap.size, 0, none⟩ = some (.int .i64 m.k) := row_at r_m13.out 0
          have c_m13_1 : W13.cell? ⟨W1.heap.size, 1, none⟩ = some (.int .i64 m.f) := row_at r_m13.out 1
          have c_m13_2 : W13.cell? ⟨W1.heap.size, 2, none⟩ = some (.int .i64 m.t) := row_at r_m13.out 2
          have c_m13_3 : W13.cell? ⟨W1.heap.size, 3, none⟩ = some (.int .i64 m.h.n) := row_at r_m13.out 3
          have c_m13_4 : W13.cell? ⟨W1.heap.size, 4, none⟩ = some (.string m.h.r) := row_at r_m13.out 4
          have c_m13_5 : W13.cell? ⟨W1.heap.size, 5, none⟩ = some (.int .i64 m.n) := row_at r_m13.out 5
          have c_m13_6 : W13.cell? ⟨W1.heap.size, 6, none⟩ = some (.slice ao_p L_p cap_p) := row_at r_m13.out 6
          have c_y13_0 : W13.cell? ⟨W5.heap.size, 0, none⟩ = some (.int .i64 y.k) := row_at r_y13.out 0
          have c_y13_1 : W13.cell? ⟨W5.heap.size, 1, none⟩ = some (.int .i64 y.f) := row_at r_y13.out 1
          have c_y13_2 : W13.cell? ⟨W5.heap.size, 2, none⟩ = some (.int .i64 y.t) := row_at r_y13.out 2
          have c_y13_3 : W13.cell? ⟨W5.heap.size, 3, none⟩ = some (.int .i64 y.h.n) := row_at r_y13.out 3
          have c_y13_4 : W13.cell? ⟨W5.heap.size, 4, none⟩ = some (.string y.h.r) := row_at r_y13.out 4
          have c_y13_5 : W13.cell? ⟨W5.heap.size, 5, none⟩ = some (.int .i64 y.n) := row_at r_y13.out 5
          have c_y13_6 : W13.cell? ⟨W5.heap.size, 6, none⟩ = some (.slice ao_y L_y cap_y) := row_at r_y13.out 6
          have c_z13_0 : W13.cell? ⟨W7.heap.size, 0, none⟩ = some (.int .i64 y.k) := row_at r_z13.out 0
          have c_z13_1 : W13.cell? ⟨W7.heap.size, 1, none⟩ = some (.int .i64 y.f) := row_at r_z13.out 1
          have c_z13_2 : W13.cell? ⟨W7.heap.size, 2, none⟩ = some (.int .i64 y.t) := row_at r_z13.out 2
          have c_z13_3 : W13.cell? ⟨W7.heap.size, 3, none⟩ = some (.int .i64 y.h.n) := row_at r_z13.out 3
          have c_z13_4 : W13.cell? ⟨W7.heap.size, 4, none⟩ = some (.string y.h.r) := row_at r_z13.out 4
          have c_z13_5 : W13.cell? ⟨W7.heap.size, 5, none⟩ = some (.int .i64 y.n) := row_at r_z13.out 5
          have c_z13_6 : W13.cell? ⟨W7.heap.size, 6, none⟩ = some (.slice ao_z L_z cap_z) := row_at r_z13.out 6
          have c_x13_0 : W13.cell? ⟨W12.heap.size, 0, none⟩ = some (.int .i64 m.k) := row_at r_x13.out 0
          have c_x13_1 : W13.cell? ⟨W12.heap.size, 1, none⟩ = some (.int .i64 m.f) := row_at r_x13.out 1
          have c_x13_2 : W13.cell? ⟨W12.heap.size, 2, none⟩ = some (.int .i64 m.t) := row_at r_x13.out 2
          have c_x13_3 : W13.cell? ⟨W12.heap.size, 3, none⟩ = some (.int .i64 m.h.n) := row_at r_x13.out 3
          have c_x13_4 : W13.cell? ⟨W12.heap.size, 4, none⟩ = some (.string m.h.r) := row_at r_x13.out 4
          have c_x13_5 : W13.cell? ⟨W12.heap.size, 5, none⟩ = some (.int .i64 m.n) := row_at r_x13.out 5
          have c_x13_6 : W13.cell? ⟨W12.heap.size, 6, none⟩ = some (.slice ao_x L_x cap_x) := row_at r_x13.out 6
          clear r_m12 c_m12_0 c_m12_1 c_m12_2 c_m12_3 c_m12_4 c_m12_5 c_m12_6 r_y12 c_y12_0 c_y12_1 c_y12_2 c_y12_3 c_y12_4 c_y12_5 c_y12_6 r_z12 c_z12_0 c_z12_1 c_z12_2 c_z12_3 c_z12_4 c_z12_5 c_z12_6 o_p12 o_b12 o_x12
          have n_k : (m.k == m.k) = true := by simp
          have n_f : (m.f == m.f) = true := by simp
          have n_t : (m.t == m.t) = true := by simp
          have n_n : (m.n == m.n) = true := by simp
          have e1 : ∀ W, (binOp .eql 25 (.agg #[.int .i64 m.h.n, .string m.h.r]) (.agg #[.int .i64 m.h.n, .string m.h.r])).run Try.prog W = .ok (.bool true) W := fun W => by have h9 := eqlH W m.h m.h; rw [(eqH_iff _ _).2 rfl] at h9; exact h9
          have e2 : ∀ W op y z xs ys, _ := fun W op y z xs ys => grdH W op y z xs ys
          go_wp2_with fail
          rw [HW13.out]
          clear a_m12_0 a_m12_1 a_m12_2 a_m12_3 a_m12_4 a_m12_5 a_m12_6 a_y12_0 a_y12_1 a_y12_2 a_y12_3 a_y12_4 a_y12_5 a_y12_6 a_z12_0 a_z12_1 a_z12_2 a_z12_3 a_z12_4 a_z12_5 a_z12_6
          refine (same_true W13 _ _ m.x o_x13.out.sl o_p13.out.sl (by omega)).mono ?_
          rintro e W14 ⟨rfl, h14, _⟩
          have b14 : Below W13.heap.size W13 W14 := h14 _
          clear h14
          have z14 : W13.heap.size ≤ W14.heap.size := b14.size
          have B14 : Hid (Below w.heap.size w W14) := B13.out.trans (b14.mono B13.out.size)
          have r_m14 : Hid (W14.heap[W1.heap.size]? = some (.cells #[.int .i64 m.k, .int .i64 m.f, .int .i64 m.t, .int .i64 m.h.n, .string m.h.r, .int .i64 m.n, .slice ao_p L_p cap_p] 28 (0, 0))) := rowKeep r_m13.out b14
          have r_y14 : Hid (W14.heap[W5.heap.size]? = some (.cells #[.int .i64 y.k, .int .i64 y.f, .int .i64 y.t, .int .i64 y.h.n, .string y.h.r, .int .i64 y.n, .slice ao_y L_y cap_y] 28 (0, 0))) := rowKeep r_y13.out b14
          have r_z14 : Hid (W14.heap[W7.heap.size]? = some (.cells #[.int .i64 y.k, .int .i64 y.f, .int .i64 y.t, .int .i64 y.h.n, .string y.h.r, .int .i64 y.n, .slice ao_z L_z cap_z] 28 (0, 0))) := rowKeep r_z13.out b14
          have r_x14 : Hid (W14.heap[W12.heap.size]? = some (.cells #[.int .i64 m.k, .int .i64 m.f, .int .i64 m.t, .int .i64 m.h.n, .string m.h.r, .int .i64 m.n, .slice ao_x L_x cap_x] 28 (0, 0))) := rowKeep r_x13.out b14
          have o_p14 : Hid (Own W14 (w.heap.size) (W1.heap.size) 9 (.slice ao_p L_p cap_p) (ss m.x)) := Own.later o_p13.out b14 (by omega)
          have o_b14 : Hid (Own W14 (W2.heap.size) (W3.heap.size) 5 (.slice ao_b P.length cap_b) (bs P)) := Own.later o_b13.out b14 (by omega)
          have o_x14 : Hid (Own W14 (W11.heap.size) (W12.heap.size) 9 (.slice ao_x L_x cap_x) (ss m.x)) := Own.later o_x13.out b14 (by omega)
          have c_m14_0 : W14.cell? ⟨W1.heap.size, 0, none⟩ = some (.int .i64 m.k) := row_at r_m14.out 0
          have c_m14_1 : W14.cell? ⟨W1.heap.size, 1, none⟩ = some (.int .i64 m.f) := row_at r_m14.out 1
          have c_m14_2 : W14.cell? ⟨W1.heap.size, 2, none⟩ = some (.int .i64 m.t) := row_at r_m14.out 2
          have c_m14_3 : W14.cell? ⟨W1.heap.size, 3, none⟩ = some (.int .i64 m.h.n) := row_at r_m14.out 3
          have c_m14_4 : W14.cell? ⟨W1.heap.size, 4, none⟩ = some (.string m.h.r) := row_at r_m14.out 4
          have c_m14_5 : W14.cell? ⟨W1.heap.size, 5, none⟩ = some (.int .i64 m.n) := row_at r_m14.out 5
          have c_m14_6 : W14.cell? ⟨W1.heap.size, 6, none⟩ = some (.slice ao_p L_p cap_p) := row_at r_m14.out 6
          have c_y14_0 : W14.cell? ⟨W5.heap.size, 0, none⟩ = some (.int .i64 y.k) := row_at r_y14.out 0
          have c_y14_1 : W14.cell? ⟨W5.heap.size, 1, none⟩ = some (.int .i64 y.f) := row_at r_y14.out 1
          have c_y14_2 : W14.cell? ⟨W5.heap.size, 2, none⟩ = some (.int .i64 y.t) := row_at r_y14.out 2
          have c_y14_3 : W14.cell? ⟨W5.heap.size, 3, none⟩ = some (.int .i64 y.h.n) := row_at r_y14.out 3
          have c_y14_4 : W14.cell? ⟨W5.heap.size, 4, none⟩ = some (.string y.h.r) := row_at r_y14.out 4
          have c_y14_5 : W14.cell? ⟨W5.heap.size, 5, none⟩ = some (.int .i64 y.n) := row_at r_y14.out 5
          have c_y14_6 : W14.cell? ⟨W5.heap.size, 6, none⟩ = some (.slice ao_y L_y cap_y) := row_at r_y14.out 6
          have c_z14_0 : W14.cell? ⟨W7.heap.size, 0, none⟩ = some (.int .i64 y.k) := row_at r_z14.out 0
          have c_z14_1 : W14.cell? ⟨W7.heap.size, 1, none⟩ = some (.int .i64 y.f) := row_at r_z14.out 1
          have c_z14_2 : W14.cell? ⟨W7.heap.size, 2, none⟩ = some (.int .i64 y.t) := row_at r_z14.out 2
          have c_z14_3 : W14.cell? ⟨W7.heap.size, 3, none⟩ = some (.int .i64 y.h.n) := row_at r_z14.out 3
          have c_z14_4 : W14.cell? ⟨W7.heap.size, 4, none⟩ = some (.string y.h.r) := row_at r_z14.out 4
          have c_z14_5 : W14.cell? ⟨W7.heap.size, 5, none⟩ = some (.int .i64 y.n) := row_at r_z14.out 5
          have c_z14_6 : W14.cell? ⟨W7.heap.size, 6, none⟩ = some (.slice ao_z L_z cap_z) := row_at r_z14.out 6
          have c_x14_0 : W14.cell? ⟨W12.heap.size, 0, none⟩ = some (.int .i64 m.k) := row_at r_x14.out 0
          have c_x14_1 : W14.cell? ⟨W12.heap.size, 1, none⟩ = some (.int .i64 m.f) := row_at r_x14.out 1
          have c_x14_2 : W14.cell? ⟨W12.heap.size, 2, none⟩ = some (.int .i64 m.t) := row_at r_x14.out 2
          have c_x14_3 : W14.cell? ⟨W12.heap.size, 3, none⟩ = some (.int .i64 m.h.n) := row_at r_x14.out 3
          have c_x14_4 : W14.cell? ⟨W12.heap.size, 4, none⟩ = some (.string m.h.r) := row_at r_x14.out 4
          have c_x14_5 : W14.cell? ⟨W12.heap.size, 5, none⟩ = some (.int .i64 m.n) := row_at r_x14.out 5
          have c_x14_6 : W14.cell? ⟨W12.heap.size, 6, none⟩ = some (.slice ao_x L_x cap_x) := row_at r_x14.out 6
          clear r_m13 c_m13_0 c_m13_1 c_m13_2 c_m13_3 c_m13_4 c_m13_5 c_m13_6 r_y13 c_y13_0 c_y13_1 c_y13_2 c_y13_3 c_y13_4 c_y13_5 c_y13_6 r_z13 c_z13_0 c_z13_1 c_z13_2 c_z13_3 c_z13_4 c_z13_5 c_z13_6 r_x13 c_x13_0 c_x13_1 c_x13_2 c_x13_3 c_x13_4 c_x13_5 c_x13_6 o_p13 o_b13 o_x13
          go_wp2
          go_ret
          exact ⟨rfl, B14.out⟩
      · have cv : (convert 22 9 (.slice ao_c cb.length cap_c)).run Try.prog W10 = .ok (.string C) W10 := by have h9 := conv_sl (f_c10.out) HCB.out; rw [HCC.out] at h9; exact h9
        go_simp
        refine hK.out _ _ ⟨hHeld.1, hHeld.2.1, hHeld.2.2.1, hHeld.2.2.2.1, hHeld.2.2.2.2.1, hHeld.2.2.2.2.2.1, hHeld.2.2.2.2.2.2.1, hHeld.2.2.2.2.2.2.2.1, hHeld.2.2.2.2.2.2.2.2.1, hHeld.2.2.2.2.2.2.2.2.2.1, hHeld.2.2.2.2.2.2.2.2.2.2.1, hHeld.2.2.2.2.2.2.2.2.2.2.2.1, hHeld.2.2.2.2.2.2.2.2.2.2.2.2.1, hHeld.2.2.2.2.2.2.2.2.2.2.2.2.2⟩ (fun hHeld => ?_)
        clear hK K cv
        try simp only [Act.put, List.setIfInBounds_toArray, List.set_cons_zero, List.set_cons_succ, List.getElem_toArray, List.getElem_cons_zero, List.getElem_cons_succ]
        refine wpAnyH_ready (rs := [8]) (by kernel_rfl) (by simp) ?_
        refine AllReadyH.cons rfl (fun K hK => ?_) AllReadyH.nil
        have cv : (convert 22 9 (.slice ao_u cb.length cap_u)).run Try.prog W10 = .ok (.string C) W10 := by have h9 := conv_sl (o_u10.out.sl) HCB.out; rw [HCC.out] at h9; exact h9
        go_simp
        refine hK.out _ _ ⟨hHeld.1, hHeld.2.1, hHeld.2.2.1, hHeld.2.2.2.1, hHeld.2.2.2.2.1, hHeld.2.2.2.2.2.1, hHeld.2.2.2.2.2.2.1, hHeld.2.2.2.2.2.2.2.1, hHeld.2.2.2.2.2.2.2.2.1, hHeld.2.2.2.2.2.2.2.2.2.1, hHeld.2.2.2.2.2.2.2.2.2.2.1, hHeld.2.2.2.2.2.2.2.2.2.2.2.1, hHeld.2.2.2.2.2.2.2.2.2.2.2.2.1, hHeld.2.2.2.2.2.2.2.2.2.2.2.2.2⟩ (fun hHeld => ?_)
        clear hK K cv
        try simp only [Act.put, List.setIfInBounds_toArray, List.set_cons_zero, List.set_cons_succ, List.getElem_toArray, List.getElem_cons_zero, List.getElem_cons_succ]
        (refine wpAnyH_take (i := 11) (v := ?v11x51) rfl (by kernel_rfl) (by kernel_rfl) (by kernel_rfl) (fun _ _ _ h => h) (Or.inl ⟨by rfl, ?hy11x51⟩) (by assumption) ?rest11x51; case hy11x51 => (intro w hSw; (try dsimp only at hSw); go_split_ands; go_simp; (try with_reducible rfl)))
        try simp only [Act.put, List.setIfInBounds_toArray, List.set_cons_zero, List.set_cons_succ, List.getElem_toArray, List.getElem_cons_zero, List.getElem_cons_succ]
        (refine wpAnyH_take (i := 12) (v := ?v12x52) rfl (by kernel_rfl) (by kernel_rfl) (by kernel_rfl) (fun _ _ _ h => h) (Or.inl ⟨by rfl, ?hy12x52⟩) (by assumption) ?rest12x52; case hy12x52 => (intro w hSw; (try dsimp only at hSw); go_split_ands; go_simp; (try with_reducible rfl)))
        try simp only [Act.put, List.setIfInBounds_toArray, List.set_cons_zero, List.set_cons_succ, List.getElem_toArray, List.getElem_cons_zero, List.getElem_cons_succ]
        (refine wpAnyH_take (i := 13) (v := ?v13x53) rfl (by kernel_rfl) (by kernel_rfl) (by kernel_rfl) (fun _ _ _ h => h) (Or.inl ⟨by rfl, ?hy13x53⟩) (by assumption) ?rest13x53; case hy13x53 => (intro w hSw; (try dsimp only at hSw); go_split_ands; go_simp; (try with_reducible rfl)))
        try simp only [Act.put, List.setIfInBounds_toArray, List.set_cons_zero, List.set_cons_succ, List.getElem_toArray, List.getElem_cons_zero, List.getElem_cons_succ]
        refine wpAnyH_done (by kernel_rfl) ?_ _
        clear hHeld
        clear o_u10
        clear o_y10
        clear o_z10
        clear f_c10
        have q3 : ∀ W v1, Sl W v1 (ss m.x) → _ := fun W v1 h1 => msgok_spec W v1 m h1 (by omega)
        have q4 : ∀ W v1, Below w.heap.size w W → Sl W v1 (ss m.x) → _ := fun W v1 hW h1 => iOk W hW v1 m h1 (by omega) HSZ.out (by omega)
        obtain ⟨A, hA⟩ : ∃ A, msgOk m = A := ⟨_, rfl⟩
        simp only [hA] at q3 q4
        have HA : Hid (msgOk m = A) := hA
        clear hA
        go_wp2_with fail
        refine (q3 W10 _ o_p10.out.sl).mono ?_
        rintro e W11 ⟨rfl, b11⟩
        have z11 : W10.heap.size ≤ W11.heap.size := b11.size
        have B11 : Hid (Below w.heap.size w W11) := B10.out.trans (b11.mono B10.out.size)
        have r_m11 : Hid (W11.heap[W1.heap.size]? = some (.cells #[.int .i64 m.k, .int .i64 m.f, .int .i64 m.t, .int .i64 m.h.n, .string m.h.r, .int .i64 m.n, .slice ao_p L_p cap_p] 28 (0, 0))) := rowKeep r_m10.out b11
        have r_y11 : Hid (W11.heap[W5.heap.size]? = some (.cells #[.int .i64 y.k, .int .i64 y.f, .int .i64 y.t, .int .i64 y.h.n, .string y.h.r, .int .i64 y.n, .slice ao_y L_y cap_y] 28 (0, 0))) := rowKeep r_y10.out b11
        have r_z11 : Hid (W11.heap[W7.heap.size]? = some (.cells #[.int .i64 y.k, .int .i64 y.f, .int .i64 y.t, .int .i64 y.h.n, .string y.h.r, .int .i64 y.n, .slice ao_z L_z cap_z] 28 (0, 0))) := rowKeep r_z10.out b11
        have o_p11 : Hid (Own W11 (w.heap.size) (W1.heap.size) 9 (.slice ao_p L_p cap_p) (ss m.x)) := Own.later o_p10.out b11 (by omega)
        have o_b11 : Hid (Own W11 (W2.heap.size) (W3.heap.size) 5 (.slice ao_b P.length cap_b) (bs P)) := Own.later o_b10.out b11 (by omega)
        have c_m11_0 : W11.cell? ⟨W1.heap.size, 0, none⟩ = some (.int .i64 m.k) := row_at r_m11.out 0
        have c_m11_1 : W11.cell? ⟨W1.heap.size, 1, none⟩ = some (.int .i64 m.f) := row_at r_m11.out 1
        have c_m11_2 : W11.cell? ⟨W1.heap.size, 2, none⟩ = some (.int .i64 m.t) := row_at r_m11.out 2
        have c_m11_3 : W11.cell? ⟨W1.heap.size, 3, none⟩ = some (.int .i64 m.h.n) := row_at r_m11.out 3
        have c_m11_4 : W11.cell? ⟨W1.heap.size, 4, none⟩ = some (.string m.h.r) := row_at r_m11.out 4
        have c_m11_5 : W11.cell? ⟨W1.heap.size, 5, none⟩ = some (.int .i64 m.n) := row_at r_m11.out 5
        have c_m11_6 : W11.cell? ⟨W1.heap.size, 6, none⟩ = some (.slice ao_p L_p cap_p) := row_at r_m11.out 6
        have c_y11_0 : W11.cell? ⟨W5.heap.size, 0, none⟩ = some (.int .i64 y.k) := row_at r_y11.out 0
        have c_y11_1 : W11.cell? ⟨W5.heap.size, 1, none⟩ = some (.int .i64 y.f) := row_at r_y11.out 1
        have c_y11_2 : W11.cell? ⟨W5.heap.size, 2, none⟩ = some (.int .i64 y.t) := row_at r_y11.out 2
        have c_y11_3 : W11.cell? ⟨W5.heap.size, 3, none⟩ = some (.int .i64 y.h.n) := row_at r_y11.out 3
        have c_y11_4 : W11.cell? ⟨W5.heap.size, 4, none⟩ = some (.string y.h.r) := row_at r_y11.out 4
        have c_y11_5 : W11.cell? ⟨W5.heap.size, 5, none⟩ = some (.int .i64 y.n) := row_at r_y11.out 5
        have c_y11_6 : W11.cell? ⟨W5.heap.size, 6, none⟩ = some (.slice ao_y L_y cap_y) := row_at r_y11.out 6
        have c_z11_0 : W11.cell? ⟨W7.heap.size, 0, none⟩ = some (.int .i64 y.k) := row_at r_z11.out 0
        have c_z11_1 : W11.cell? ⟨W7.heap.size, 1, none⟩ = some (.int .i64 y.f) := row_at r_z11.out 1
        have c_z11_2 : W11.cell? ⟨W7.heap.size, 2, none⟩ = some (.int .i64 y.t) := row_at r_z11.out 2
        have c_z11_3 : W11.cell? ⟨W7.heap.size, 3, none⟩ = some (.int .i64 y.h.n) := row_at r_z11.out 3
        have c_z11_4 : W11.cell? ⟨W7.heap.size, 4, none⟩ = some (.string y.h.r) := row_at r_z11.out 4
        have c_z11_5 : W11.cell? ⟨W7.heap.size, 5, none⟩ = some (.int .i64 y.n) := row_at r_z11.out 5
        have c_z11_6 : W11.cell? ⟨W7.heap.size, 6, none⟩ = some (.slice ao_z L_z cap_z) := row_at r_z11.out 6
        clear r_m10 c_m10_0 c_m10_1 c_m10_2 c_m10_3 c_m10_4 c_m10_5 c_m10_6 r_y10 c_y10_0 c_y10_1 c_y10_2 c_y10_3 c_y10_4 c_y10_5 c_y10_6 r_z10 c_z10_0 c_z10_1 c_z10_2 c_z10_3 c_z10_4 c_z10_5 c_z10_6 o_p10 o_b10
        clear q3
        cases A
        · have e9 : P = [] := by rw [← HP.out]; unfold putM; rw [HA.out]; rfl
          have hp0 : (P.length : Int) = 0 := by rw [e9]; rfl
          have hpb : ((P.length : Int) == 0) = true := by rw [hp0]; rfl
          clear e9
          go_wp2_with fail
          refine (q4 W11 _ B11.out o_p11.out.sl).mono ?_
          rintro e W12 ⟨rfl, b12⟩
          have z12 : W11.heap.size ≤ W12.heap.size := b12.size
          have B12 : Hid (Below w.heap.size w W12) := B11.out.trans (b12.mono B11.out.size)
          have r_m12 : Hid (W12.heap[W1.heap.size]? = some (.cells #[.int .i64 m.k, .int .i64 m.f, .int .i64 m.t, .int .i64 m.h.n, .string m.h.r, .int .i64 m.n, .slice ao_p L_p cap_p] 28 (0, 0))) := rowKeep r_m11.out b12
          have r_y12 : Hid (W12.heap[W5.heap.size]? = some (.cells #[.int .i64 y.k, .int .i64 y.f, .int .i64 y.t, .int .i64 y.h.n, .string y.h.r, .int .i64 y.n, .slice ao_y L_y cap_y] 28 (0, 0))) := rowKeep r_y11.out b12
          have r_z12 : Hid (W12.heap[W7.heap.size]? = some (.cells #[.int .i64 y.k, .int .i64 y.f, .int .i64 y.t, .int .i64 y.h.n, .string y.h.r, .int .i64 y.n, .slice ao_z L_z cap_z] 28 (0, 0))) := rowKeep r_z11.out b12
          have o_p12 : Hid (Own W12 (w.heap.size) (W1.heap.size) 9 (.slice ao_p L_p cap_p) (ss m.x)) := Own.later o_p11.out b12 (by omega)
          have o_b12 : Hid (Own W12 (W2.heap.size) (W3.heap.size) 5 (.slice ao_b P.length cap_b) (bs P)) := Own.later o_b11.out b12 (by omega)
          have c_m12_0 : W12.cell? ⟨W1.heap.size, 0, none⟩ = some (.int .i64 m.k) := row_at r_m12.out 0
          have c_m12_1 : W12.cell? ⟨W1.heap.size, 1, none⟩ = some (.int .i64 m.f) := row_at r_m12.out 1
          have c_m12_2 : W12.cell? ⟨W1.heap.size, 2, none⟩ = some (.int .i64 m.t) := row_at r_m12.out 2
          have c_m12_3 : W12.cell? ⟨W1.heap.size, 3, none⟩ = some (.int .i64 m.h.n) := row_at r_m12.out 3
          have c_m12_4 : W12.cell? ⟨W1.heap.size, 4, none⟩ = some (.string m.h.r) := row_at r_m12.out 4
          have c_m12_5 : W12.cell? ⟨W1.heap.size, 5, none⟩ = some (.int .i64 m.n) := row_at r_m12.out 5
          have c_m12_6 : W12.cell? ⟨W1.heap.size, 6, none⟩ = some (.slice ao_p L_p cap_p) := row_at r_m12.out 6
          have c_y12_0 : W12.cell? ⟨W5.heap.size, 0, none⟩ = some (.int .i64 y.k) := row_at r_y12.out 0
          have c_y12_1 : W12.cell? ⟨W5.heap.size, 1, none⟩ = some (.int .i64 y.f) := row_at r_y12.out 1
          have c_y12_2 : W12.cell? ⟨W5.heap.size, 2, none⟩ = some (.int .i64 y.t) := row_at r_y12.out 2
          have c_y12_3 : W12.cell? ⟨W5.heap.size, 3, none⟩ = some (.int .i64 y.h.n) := row_at r_y12.out 3
          have c_y12_4 : W12.cell? ⟨W5.heap.size, 4, none⟩ = some (.string y.h.r) := row_at r_y12.out 4
          have c_y12_5 : W12.cell? ⟨W5.heap.size, 5, none⟩ = some (.int .i64 y.n) := row_at r_y12.out 5
          have c_y12_6 : W12.cell? ⟨W5.heap.size, 6, none⟩ = some (.slice ao_y L_y cap_y) := row_at r_y12.out 6
          have c_z12_0 : W12.cell? ⟨W7.heap.size, 0, none⟩ = some (.int .i64 y.k) := row_at r_z12.out 0
          have c_z12_1 : W12.cell? ⟨W7.heap.size, 1, none⟩ = some (.int .i64 y.f) := row_at r_z12.out 1
          have c_z12_2 : W12.cell? ⟨W7.heap.size, 2, none⟩ = some (.int .i64 y.t) := row_at r_z12.out 2
          have c_z12_3 : W12.cell? ⟨W7.heap.size, 3, none⟩ = some (.int .i64 y.h.n) := row_at r_z12.out 3
          have c_z12_4 : W12.cell? ⟨W7.heap.size, 4, none⟩ = some (.string y.h.r) := row_at r_z12.out 4
          have c_z12_5 : W12.cell? ⟨W7.heap.size, 5, none⟩ = some (.int .i64 y.n) := row_at r_z12.out 5
          have c_z12_6 : W12.cell? ⟨W7.heap.size, 6, none⟩ = some (.slice ao_z L_z cap_z) := row_at r_z12.out 6
          clear r_m11 c_m11_0 c_m11_1 c_m11_2 c_m11_3 c_m11_4 c_m11_5 c_m11_6 r_y11 c_y11_0 c_y11_1 c_y11_2 c_y11_3 c_y11_4 c_y11_5 c_y11_6 r_z11 c_z11_0 c_z11_1 c_z11_2 c_z11_3 c_z11_4 c_z11_5 c_z11_6 o_p11 o_b11
          go_wp2
          go_ret
          exact ⟨rfl, B12.out⟩
        · have e9 : P = bytesM m := by rw [← HP.out]; unfold putM; rw [HA.out]; rfl
          have g9 := get_putM HA.out (fun s h => Nat.le_trans (HSZ.out s h) (by omega))
          rw [← e9] at g9
          have hPb9 : P.length ≤ 400 := by rw [e9]; exact hbs
          have HPY : Hid (Byt P) := by show Byt P; rw [e9]; exact bytes_byt m
          have q5 : ∀ W v1, Below w.heap.size w W → Sl W v1 (bs P) → _ := fun W v1 hW h1 => iGet W hW v1 P h1 HPY.out (by omega)
          unfold GotM at q5
          simp only [g9] at q5
          clear g9 e9 q4
          go_wp2_with fail
          refine (q5 W11 _ B11.out o_b11.out.sl).mono ?_
          rintro e W12 ⟨v_x, rfl, o_x12, b12⟩
          obtain ⟨ao_x, L_x, cap_x, rfl, hL_x, hM_x⟩ := o_x12.form
          have o_x12 : Hid (Own W12 W11.heap.size W12.heap.size 9 (.slice ao_x L_x cap_x) (ss m.x)) := o_x12
          clear hL_x hM_x
          have z12 : W11.heap.size ≤ W12.heap.size := b12.size
          have B12 : Hid (Below w.heap.size w W12) := B11.out.trans (b12.mono B11.out.size)
          have r_m12 : Hid (W12.heap[W1.heap.size]? = some (.cells #[.int .i64 m.k, .int .i64 m.f, .int .i64 m.t, .int .i64 m.h.n, .string m.h.r, .int .i64 m.n, .slice ao_p L_p cap_p] 28 (0, 0))) := rowKeep r_m11.out b12
          have r_y12 : Hid (W12.heap[W5.heap.size]? = some (.cells #[.int .i64 y.k, .int .i64 y.f, .int .i64 y.t, .int .i64 y.h.n, .string y.h.r, .int .i64 y.n, .slice ao_y L_y cap_y] 28 (0, 0))) := rowKeep r_y11.out b12
          have r_z12 : Hid (W12.heap[W7.heap.size]? = some (.cells #[.int .i64 y.k, .int .i64 y.f, .int .i64 y.t, .int .i64 y.h.n, .string y.h.r, .int .i64 y.n, .slice ao_z L_z cap_z] 28 (0, 0))) := rowKeep r_z11.out b12
          have o_p12 : Hid (Own W12 (w.heap.size) (W1.heap.size) 9 (.slice ao_p L_p cap_p) (ss m.x)) := Own.later o_p11.out b12 (by omega)
          have o_b12 : Hid (Own W12 (W2.heap.size) (W3.heap.size) 5 (.slice ao_b P.length cap_b) (bs P)) := Own.later o_b11.out b12 (by omega)
          have c_m12_0 : W12.cell? ⟨W1.heap.size, 0, none⟩ = some (.int .i64 m.k) := row_at r_m12.out 0
          have c_m12_1 : W12.cell? ⟨W1.heap.size, 1, none⟩ = some (.int .i64 m.f) := row_at r_m12.out 1
          have c_m12_2 : W12.cell? ⟨W1.heap.size, 2, none⟩ = some (.int .i64 m.t) := row_at r_m12.out 2
          have c_m12_3 : W12.cell? ⟨W1.heap.size, 3, none⟩ = some (.int .i64 m.h.n) := row_at r_m12.out 3
          have c_m12_4 : W12.cell? ⟨W1.heap.size, 4, none⟩ = some (.string m.h.r) := row_at r_m12.out 4
          have c_m12_5 : W12.cell? ⟨W1.heap.size, 5, none⟩ = some (.int .i64 m.n) := row_at r_m12.out 5
          have c_m12_6 : W12.cell? ⟨W1.heap.size, 6, none⟩ = some (.slice ao_p L_p cap_p) := row_at r_m12.out 6
          have c_y12_0 : W12.cell? ⟨W5.heap.size, 0, none⟩ = some (.int .i64 y.k) := row_at r_y12.out 0
          have c_y12_1 : W12.cell? ⟨W5.heap.size, 1, none⟩ = some (.int .i64 y.f) := row_at r_y12.out 1
          have c_y12_2 : W12.cell? ⟨W5.heap.size, 2, none⟩ = some (.int .i64 y.t) := row_at r_y12.out 2
          have c_y12_3 : W12.cell? ⟨W5.heap.size, 3, none⟩ = some (.int .i64 y.h.n) := row_at r_y12.out 3
          have c_y12_4 : W12.cell? ⟨W5.heap.size, 4, none⟩ = some (.string y.h.r) := row_at r_y12.out 4
          have c_y12_5 : W12.cell? ⟨W5.heap.size, 5, none⟩ = some (.int .i64 y.n) := row_at r_y12.out 5
          have c_y12_6 : W12.cell? ⟨W5.heap.size, 6, none⟩ = some (.slice ao_y L_y cap_y) := row_at r_y12.out 6
          have c_z12_0 : W12.cell? ⟨W7.heap.size, 0, none⟩ = some (.int .i64 y.k) := row_at r_z12.out 0
          have c_z12_1 : W12.cell? ⟨W7.heap.size, 1, none⟩ = some (.int .i64 y.f) := row_at r_z12.out 1
          have c_z12_2 : W12.cell? ⟨W7.heap.size, 2, none⟩ = some (.int .i64 y.t) := row_at r_z12.out 2
          have c_z12_3 : W12.cell? ⟨W7.heap.size, 3, none⟩ = some (.int .i64 y.h.n) := row_at r_z12.out 3
          have c_z12_4 : W12.cell? ⟨W7.heap.size, 4, none⟩ = some (.string y.h.r) := row_at r_z12.out 4
          have c_z12_5 : W12.cell? ⟨W7.heap.size, 5, none⟩ = some (.int .i64 y.n) := row_at r_z12.out 5
          have c_z12_6 : W12.cell? ⟨W7.heap.size, 6, none⟩ = some (.slice ao_z L_z cap_z) := row_at r_z12.out 6
          clear r_m11 c_m11_0 c_m11_1 c_m11_2 c_m11_3 c_m11_4 c_m11_5 c_m11_6 r_y11 c_y11_0 c_y11_1 c_y11_2 c_y11_3 c_y11_4 c_y11_5 c_y11_6 r_z11 c_z11_0 c_z11_1 c_z11_2 c_z11_3 c_z11_4 c_z11_5 c_z11_6 o_p11 o_b11
          have a_m12_0 : ∀ o, (W12.alloc o).cell? ⟨W1.heap.size, 0, none⟩ = some (.int .i64 m.k) := fun o => keepR c_m12_0 ((Below.refl _ _).alloc (Nat.le_refl _) o)
          have a_m12_1 : ∀ o, (W12.alloc o).cell? ⟨W1.heap.size, 1, none⟩ = some (.int .i64 m.f) := fun o => keepR c_m12_1 ((Below.refl _ _).alloc (Nat.le_refl _) o)
          have a_m12_2 : ∀ o, (W12.alloc o).cell? ⟨W1.heap.size, 2, none⟩ = some (.int .i64 m.t) := fun o => keepR c_m12_2 ((Below.refl _ _).alloc (Nat.le_refl _) o)
          have a_m12_3 : ∀ o, (W12.alloc o).cell? ⟨W1.heap.size, 3, none⟩ = some (.int .i64 m.h.n) := fun o => keepR c_m12_3 ((Below.refl _ _).alloc (Nat.le_refl _) o)
          have a_m12_4 : ∀ o, (W12.alloc o).cell? ⟨W1.heap.size, 4, none⟩ = some (.string m.h.r) := fun o => keepR c_m12_4 ((Below.refl _ _).alloc (Nat.le_refl _) o)
          have a_m12_5 : ∀ o, (W12.alloc o).cell? ⟨W1.heap.size, 5, none⟩ = some (.int .i64 m.n) := fun o => keepR c_m12_5 ((Below.refl _ _).alloc (Nat.le_refl _) o)
          have a_m12_6 : ∀ o, (W12.alloc o).cell? ⟨W1.heap.size, 6, none⟩ = some (.slice ao_p L_p cap_p) := fun o => keepR c_m12_6 ((Below.refl _ _).alloc (Nat.le_refl _) o)
          have a_y12_0 : ∀ o, (W12.alloc o).cell? ⟨W5.heap.size, 0, none⟩ = some (.int .i64 y.k) := fun o => keepR c_y12_0 ((Below.refl _ _).alloc (Nat.le_refl _) o)
          have a_y12_1 : ∀ o, (W12.alloc o).cell? ⟨W5.heap.size, 1, none⟩ = some (.int .i64 y.f) := fun o => keepR c_y12_1 ((Below.refl _ _).alloc (Nat.le_refl _) o)
          have a_y12_2 : ∀ o, (W12.alloc o).cell? ⟨W5.heap.size, 2, none⟩ = some (.int .i64 y.t) := fun o => keepR c_y12_2 ((Below.refl _ _).alloc (Nat.le_refl _) o)
          have a_y12_3 : ∀ o, (W12.alloc o).cell? ⟨W5.heap.size, 3, none⟩ = some (.int .i64 y.h.n) := fun o => keepR c_y12_3 ((Below.refl _ _).alloc (Nat.le_refl _) o)
          have a_y12_4 : ∀ o, (W12.alloc o).cell? ⟨W5.heap.size, 4, none⟩ = some (.string y.h.r) := fun o => keepR c_y12_4 ((Below.refl _ _).alloc (Nat.le_refl _) o)
          have a_y12_5 : ∀ o, (W12.alloc o).cell? ⟨W5.heap.size, 5, none⟩ = some (.int .i64 y.n) := fun o => keepR c_y12_5 ((Below.refl _ _).alloc (Nat.le_refl _) o)
          have a_y12_6 : ∀ o, (W12.alloc o).cell? ⟨W5.heap.size, 6, none⟩ = some (.slice ao_y L_y cap_y) := fun o => keepR c_y12_6 ((Below.refl _ _).alloc (Nat.le_refl _) o)
          have a_z12_0 : ∀ o, (W12.alloc o).cell? ⟨W7.heap.size, 0, none⟩ = some (.int .i64 y.k) := fun o => keepR c_z12_0 ((Below.refl _ _).alloc (Nat.le_refl _) o)
          have a_z12_1 : ∀ o, (W12.alloc o).cell? ⟨W7.heap.size, 1, none⟩ = some (.int .i64 y.f) := fun o => keepR c_z12_1 ((Below.refl _ _).alloc (Nat.le_refl _) o)
          have a_z12_2 : ∀ o, (W12.alloc o).cell? ⟨W7.heap.size, 2, none⟩ = some (.int .i64 y.t) := fun o => keepR c_z12_2 ((Below.refl _ _).alloc (Nat.le_refl _) o)
          have a_z12_3 : ∀ o, (W12.alloc o).cell? ⟨W7.heap.size, 3, none⟩ = some (.int .i64 y.h.n) := fun o => keepR c_z12_3 ((Below.refl _ _).alloc (Nat.le_refl _) o)
          have a_z12_4 : ∀ o, (W12.alloc o).cell? ⟨W7.heap.size, 4, none⟩ = some (.string y.h.r) := fun o => keepR c_z12_4 ((Below.refl _ _).alloc (Nat.le_refl _) o)
          have a_z12_5 : ∀ o, (W12.alloc o).cell? ⟨W7.heap.size, 5, none⟩ = some (.int .i64 y.n) := fun o => keepR c_z12_5 ((Below.refl _ _).alloc (Nat.le_refl _) o)
          have a_z12_6 : ∀ o, (W12.alloc o).cell? ⟨W7.heap.size, 6, none⟩ = some (.slice ao_z L_z cap_z) := fun o => keepR c_z12_6 ((Below.refl _ _).alloc (Nat.le_refl _) o)
          obtain ⟨W13, HW13, b13, y13, hS13, r_x13⟩ : ∃ X, Hid ((W12.alloc (.cells #[.int .i64 m.k, .int .i64 m.f, .int .i64 m.t, .int .i64 m.h.n, .string m.h.r, .int .i64 m.n, .slice ao_x L_x cap_x] 28)) = X) ∧ Below W12.heap.size W12 X ∧ W12.heap.size + 1 ≤ X.heap.size ∧ Hid (X.heap.size = W12.heap.size + 1) ∧ Hid (X.heap[W12.heap.size]? = some (.cells #[.int .i64 m.k, .int .i64 m.f, .int .i64 m.t, .int .i64 m.h.n, .string m.h.r, .int .i64 m.n, .slice ao_x L_x cap_x] 28 (0, 0))) := ⟨_, rfl, ((Below.refl _ _).alloc (Nat.le_refl _) _), by simp, by show _ = _; simp, (by show _ = _; exact alloc_nth1_0 W12 _)⟩
          have z13 : W12.heap.size ≤ W13.heap.size := b13.size
          have B13 : Hid (Below w.heap.size w W13) := B12.out.trans (b13.mono B12.out.size)
          have r_m13 : Hid (W13.heap[W1.heap.size]? = some (.cells #[.int .i64 m.k, .int .i64 m.f, .int .i64 m.t, .int .i64 m.h.n, .string m.h.r, .int .i64 m.n, .slice ao_p L_p cap_p] 28 (0, 0))) := rowKeep r_m12.out b13
          have r_y13 : Hid (W13.heap[W5.heap.size]? = some (.cells #[.int .i64 y.k, .int .i64 y.f, .int .i64 y.t, .int .i64 y.h.n, .string y.h.r, .int .i64 y.n, .slice ao_y L_y cap_y] 28 (0, 0))) := rowKeep r_y12.out b13
          have r_z13 : Hid (W13.heap[W7.heap.size]? = some (.cells #[.int .i64 y.k, .int .i64 y.f, .int .i64 y.t, .int .i64 y.h.n, .string y.h.r, .int .i64 y.n, .slice ao_z L_z cap_z] 28 (0, 0))) := rowKeep r_z12.out b13
          have o_p13 : Hid (Own W13 (w.heap.size) (W1.heap.size) 9 (.slice ao_p L_p cap_p) (ss m.x)) := Own.later o_p12.out b13 (by omega)
          have o_b13 : Hid (Own W13 (W2.heap.size) (W3.heap.size) 5 (.slice ao_b P.length cap_b) (bs P)) := Own.later o_b12.out b13 (by omega)
          have o_x13 : Hid (Own W13 (W11.heap.size) (W12.heap.size) 9 (.slice ao_x L_x cap_x) (ss m.x)) := Own.later o_x12.out b13 (by omega)
          have c_m13_0 : W13.cell? ⟨W1.heap.size, 0, none⟩ = some (.int .i64 m.k) := row_at r_m13.out 0
          have c_m13_1 : W13.cell? ⟨W1.heap.size, 1, none⟩ = some (.int .i64 m.f) := row_at r_m13.out 1
          have c_m13_2 : W13.cell? ⟨W1.heap.size, 2, none⟩ = some (.int .i64 m.t) := row_at r_m13.out 2
          have c_m13_3 : W13.cell? ⟨W1.heap.size, 3, none⟩ = some (.int .i64 m.h.n) := row_at r_m13.out 3
          have c_m13_4 : W13.cell? ⟨W1.heap.size, 4, none⟩ = some (.string m.h.r) := row_at r_m13.out 4
          have c_m13_5 : W13.cell? ⟨W1.heap.size, 5, none⟩ = some (.int .i64 m.n) := row_at r_m13.out 5
          have c_m13_6 : W13.cell? ⟨W1.heap.size, 6, none⟩ = some (.slice ao_p L_p cap_p) := row_at r_m13.out 6
          have c_y13_0 : W13.cell? ⟨W5.heap.size, 0, none⟩ = some (.int .i64 y.k) := row_at r_y13.out 0
          have c_y13_1 : W13.cell? ⟨W5.heap.size, 1, none⟩ = some (.int .i64 y.f) := row_at r_y13.out 1
          have c_y13_2 : W13.cell? ⟨W5.heap.size, 2, none⟩ = some (.int .i64 y.t) := row_at r_y13.out 2
          have c_y13_3 : W13.cell? ⟨W5.heap.size, 3, none⟩ = some (.int .i64 y.h.n) := row_at r_y13.out 3
          have c_y13_4 : W13.cell? ⟨W5.heap.size, 4, none⟩ = some (.string y.h.r) := row_at r_y13.out 4
          have c_y13_5 : W13.cell? ⟨W5.heap.size, 5, none⟩ = some (.int .i64 y.n) := row_at r_y13.out 5
          have c_y13_6 : W13.cell? ⟨W5.heap.size, 6, none⟩ = some (.slice ao_y L_y cap_y) := row_at r_y13.out 6
          have c_z13_0 : W13.cell? ⟨W7.heap.size, 0, none⟩ = some (.int .i64 y.k) := row_at r_z13.out 0
          have c_z13_1 : W13.cell? ⟨W7.heap.size, 1, none⟩ = some (.int .i64 y.f) := row_at r_z13.out 1
          have c_z13_2 : W13.cell? ⟨W7.heap.size, 2, none⟩ = some (.int .i64 y.t) := row_at r_z13.out 2
          have c_z13_3 : W13.cell? ⟨W7.heap.size, 3, none⟩ = some (.int .i64 y.h.n) := row_at r_z13.out 3
          have c_z13_4 : W13.cell? ⟨W7.heap.size, 4, none⟩ = some (.string y.h.r) := row_at r_z13.out 4
          have c_z13_5 : W13.cell? ⟨W7.heap.size, 5, none⟩ = some (.int .i64 y.n) := row_at r_z13.out 5
          have c_z13_6 : W13.cell? ⟨W7.heap.size, 6, none⟩ = some (.slice ao_z L_z cap_z) := row_at r_z13.out 6
          have c_x13_0 : W13.cell? ⟨W12.heap.size, 0, none⟩ = some (.int .i64 m.k) := row_at r_x13.out 0
          have c_x13_1 : W13.cell? ⟨W12.heap.size, 1, none⟩ = some (.int .i64 m.f) := row_at r_x13.out 1
          have c_x13_2 : W13.cell? ⟨W12.heap.size, 2, none⟩ = some (.int .i64 m.t) := row_at r_x13.out 2
          have c_x13_3 : W13.cell? ⟨W12.heap.size, 3, none⟩ = some (.int .i64 m.h.n) := row_at r_x13.out 3
          have c_x13_4 : W13.cell? ⟨W12.heap.size, 4, none⟩ = some (.string m.h.r) := row_at r_x13.out 4
          have c_x13_5 : W13.cell? ⟨W12.heap.size, 5, none⟩ = some (.int .i64 m.n) := row_at r_x13.out 5
          have c_x13_6 : W13.cell? ⟨W12.heap.size, 6, none⟩ = some (.slice ao_x L_x cap_x) := row_at r_x13.out 6
          clear r_m12 c_m12_0 c_m12_1 c_m12_2 c_m12_3 c_m12_4 c_m12_5 c_m12_6 r_y12 c_y12_0 c_y12_1 c_y12_2 c_y12_3 c_y12_4 c_y12_5 c_y12_6 r_z12 c_z12_0 c_z12_1 c_z12_2 c_z12_3 c_z12_4 c_z12_5 c_z12_6 o_p12 o_b12 o_x12
          have n_k : (m.k == m.k) = true := by simp
          have n_f : (m.f == m.f) = true := by simp
          have n_t : (m.t == m.t) = true := by simp
          have n_n : (m.n == m.n) = true := by simp
          have e1 : ∀ W, (binOp .eql 25 (.agg #[.int .i64 m.h.n, .string m.h.r]) (.agg #[.int .i64 m.h.n, .string m.h.r])).run Try.prog W = .ok (.bool true) W := fun W => by have h9 := eqlH W m.h m.h; rw [(eqH_iff _ _).2 rfl] at h9; exact h9
          have e2 : ∀ W op y z xs ys, _ := fun W op y z xs ys => grdH W op y z xs ys
          go_wp2_with fail
          rw [HW13.out]
          clear a_m12_0 a_m12_1 a_m12_2 a_m12_3 a_m12_4 a_m12_5 a_m12_6 a_y12_0 a_y12_1 a_y12_2 a_y12_3 a_y12_4 a_y12_5 a_y12_6 a_z12_0 a_z12_1 a_z12_2 a_z12_3 a_z12_4 a_z12_5 a_z12_6
          refine (same_true W13 _ _ m.x o_x13.out.sl o_p13.out.sl (by omega)).mono ?_
          rintro e W14 ⟨rfl, h14, _⟩
          have b14 : Below W13.heap.size W13 W14 := h14 _
          clear h14
          have z14 : W13.heap.size ≤ W14.heap.size := b14.size
          have B14 : Hid (Below w.heap.size w W14) := B13.out.trans (b14.mono B13.out.size)
          have r_m14 : Hid (W14.heap[W1.heap.size]? = some (.cells #[.int .i64 m.k, .int .i64 m.f, .int .i64 m.t, .int .i64 m.h.n, .string m.h.r, .int .i64 m.n, .slice ao_p L_p cap_p] 28 (0, 0))) := rowKeep r_m13.out b14
          have r_y14 : Hid (W14.heap[W5.heap.size]? = some (.cells #[.int .i64 y.k, .int .i64 y.f, .int .i64 y.t, .int .i64 y.h.n, .string y.h.r, .int .i64 y.n, .slice ao_y L_y cap_y] 28 (0, 0))) := rowKeep r_y13.out b14
          have r_z14 : Hid (W14.heap[W7.heap.size]? = some (.cells #[.int .i64 y.k, .int .i64 y.f, .int .i64 y.t, .int .i64 y.h.n, .string y.h.r, .int .i64 y.n, .slice ao_z L_z cap_z] 28 (0, 0))) := rowKeep r_z13.out b14
          have r_x14 : Hid (W14.heap[W12.heap.size]? = some (.cells #[.int .i64 m.k, .int .i64 m.f, .int .i64 m.t, .int .i64 m.h.n, .string m.h.r, .int .i64 m.n, .slice ao_x L_x cap_x] 28 (0, 0))) := rowKeep r_x13.out b14
          have o_p14 : Hid (Own W14 (w.heap.size) (W1.heap.size) 9 (.slice ao_p L_p cap_p) (ss m.x)) := Own.later o_p13.out b14 (by omega)
          have o_b14 : Hid (Own W14 (W2.heap.size) (W3.heap.size) 5 (.slice ao_b P.length cap_b) (bs P)) := Own.later o_b13.out b14 (by omega)
          have o_x14 : Hid (Own W14 (W11.heap.size) (W12.heap.size) 9 (.slice ao_x L_x cap_x) (ss m.x)) := Own.later o_x13.out b14 (by omega)
          have c_m14_0 : W14.cell? ⟨W1.heap.size, 0, none⟩ = some (.int .i64 m.k) := row_at r_m14.out 0
          have c_m14_1 : W14.cell? ⟨W1.heap.size, 1, none⟩ = some (.int .i64 m.f) := row_at r_m14.out 1
          have c_m14_2 : W14.cell? ⟨W1.heap.size, 2, none⟩ = some (.int .i64 m.t) := row_at r_m14.out 2
          have c_m14_3 : W14.cell? ⟨W1.heap.size, 3, none⟩ = some (.int .i64 m.h.n) := row_at r_m14.out 3
          have c_m14_4 : W14.cell? ⟨W1.heap.size, 4, none⟩ = some (.string m.h.r) := row_at r_m14.out 4
          have c_m14_5 : W14.cell? ⟨W1.heap.size, 5, none⟩ = some (.int .i64 m.n) := row_at r_m14.out 5
          have c_m14_6 : W14.cell? ⟨W1.heap.size, 6, none⟩ = some (.slice ao_p L_p cap_p) := row_at r_m14.out 6
          have c_y14_0 : W14.cell? ⟨W5.heap.size, 0, none⟩ = some (.int .i64 y.k) := row_at r_y14.out 0
          have c_y14_1 : W14.cell? ⟨W5.heap.size, 1, none⟩ = some (.int .i64 y.f) := row_at r_y14.out 1
          have c_y14_2 : W14.cell? ⟨W5.heap.size, 2, none⟩ = some (.int .i64 y.t) := row_at r_y14.out 2
          have c_y14_3 : W14.cell? ⟨W5.heap.size, 3, none⟩ = some (.int .i64 y.h.n) := row_at r_y14.out 3
          have c_y14_4 : W14.cell? ⟨W5.heap.size, 4, none⟩ = some (.string y.h.r) := row_at r_y14.out 4
          have c_y14_5 : W14.cell? ⟨W5.heap.size, 5, none⟩ = some (.int .i64 y.n) := row_at r_y14.out 5
          have c_y14_6 : W14.cell? ⟨W5.heap.size, 6, none⟩ = some (.slice ao_y L_y cap_y) := row_at r_y14.out 6
          have c_z14_0 : W14.cell? ⟨W7.heap.size, 0, none⟩ = some (.int .i64 y.k) := row_at r_z14.out 0
          have c_z14_1 : W14.cell? ⟨W7.heap.size, 1, none⟩ = some (.int .i64 y.f) := row_at r_z14.out 1
          have c_z14_2 : W14.cell? ⟨W7.heap.size, 2, none⟩ = some (.int .i64 y.t) := row_at r_z14.out 2
          have c_z14_3 : W14.cell? ⟨W7.heap.size, 3, none⟩ = some (.int .i64 y.h.n) := row_at r_z14.out 3
          have c_z14_4 : W14.cell? ⟨W7.heap.size, 4, none⟩ = some (.string y.h.r) := row_at r_z14.out 4
          have c_z14_5 : W14.cell? ⟨W7.heap.size, 5, none⟩ = some (.int .i64 y.n) := row_at r_z14.out 5
          have c_z14_6 : W14.cell? ⟨W7.heap.size, 6, none⟩ = some (.slice ao_z L_z cap_z) := row_at r_z14.out 6
          have c_x14_0 : W14.cell? ⟨W12.heap.size, 0, none⟩ = some (.int .i64 m.k) := row_at r_x14.out 0
          have c_x14_1 : W14.cell? ⟨W12.heap.size, 1, none⟩ = some (.int .i64 m.f) := row_at r_x14.out 1
          have c_x14_2 : W14.cell? ⟨W12.heap.size, 2, none⟩ = some (.int .i64 m.t) := row_at r_x14.out 2
          have c_x14_3 : W14.cell? ⟨W12.heap.size, 3, none⟩ = some (.int .i64 m.h.n) := row_at r_x14.out 3
          have c_x14_4 : W14.cell? ⟨W12.heap.size, 4, none⟩ = some (.string m.h.r) := row_at r_x14.out 4
          have c_x14_5 : W14.cell? ⟨W12.heap.size, 5, none⟩ = some (.int .i64 m.n) := row_at r_x14.out 5
          have c_x14_6 : W14.cell? ⟨W12.heap.size, 6, none⟩ = some (.slice ao_x L_x cap_x) := row_at r_x14.out 6
          clear r_m13 c_m13_0 c_m13_1 c_m13_2 c_m13_3 c_m13_4 c_m13_5 c_m13_6 r_y13 c_y13_0 c_y13_1 c_y13_2 c_y13_3 c_y13_4 c_y13_5 c_y13_6 r_z13 c_z13_0 c_z13_1 c_z13_2 c_z13_3 c_z13_4 c_z13_5 c_z13_6 r_x13 c_x13_0 c_x13_1 c_x13_2 c_x13_3 c_x13_4 c_x13_5 c_x13_6 o_p13 o_b13 o_x13
          go_wp2
          go_ret
          exact ⟨rfl, B14.out⟩
    · have cv : (convert 22 9 (.slice ao_c cb.length cap_c)).run Try.prog W9 = .ok (.string C) W9 := by have h9 := conv_sl (f_c9.out) HCB.out; rw [HCC.out] at h9; exact h9
      go_simp
      refine hK.out _ _ ⟨hHeld.1, hHeld.2.1, hHeld.2.2.1, hHeld.2.2.2.1, hHeld.2.2.2.2.1, hHeld.2.2.2.2.2.1, hHeld.2.2.2.2.2.2.1, hHeld.2.2.2.2.2.2.2.1, hHeld.2.2.2.2.2.2.2.2.1, hHeld.2.2.2.2.2.2.2.2.2.1, hHeld.2.2.2.2.2.2.2.2.2.2.1, hHeld.2.2.2.2.2.2.2.2.2.2.2.1, hHeld.2.2.2.2.2.2.2.2.2.2.2.2.1, hHeld.2.2.2.2.2.2.2.2.2.2.2.2.2⟩ (fun hHeld => ?_)
      clear hK K cv
      try simp only [Act.put, List.setIfInBounds_toArray, List.set_cons_zero, List.set_cons_succ, List.getElem_toArray, List.getElem_cons_zero, List.getElem_cons_succ]
      refine wpAnyH_ready (rs := [7]) (by kernel_rfl) (by simp) ?_
      refine AllReadyH.cons rfl (fun K hK => ?_) AllReadyH.nil
      go_simp
      refine (q6 W9 _ B9.out o_y9.out.sl).mono ?_
      rintro e W10 ⟨v_u, rfl, o_u10, b10⟩
      refine hK.out _ _ ⟨(keepR (W := W9) hHeld.1 b10), (keepR (W := W9) hHeld.2.1 b10), (keepR (W := W9) hHeld.2.2.1 b10), (keepR (W := W9) hHeld.2.2.2.1 b10), (keepR (W := W9) hHeld.2.2.2.2.1 b10), (keepR (W := W9) hHeld.2.2.2.2.2.1 b10), (keepR (W := W9) hHeld.2.2.2.2.2.2.1 b10), (keepR (W := W9) hHeld.2.2.2.2.2.2.2.1 b10), (keepR (W := W9) hHeld.2.2.2.2.2.2.2.2.1 b10), (keepR (W := W9) hHeld.2.2.2.2.2.2.2.2.2.1 b10), (keepR (W := W9) hHeld.2.2.2.2.2.2.2.2.2.2.1 b10), (keepR (W := W9) hHeld.2.2.2.2.2.2.2.2.2.2.2.1 b10), (keepR (W := W9) hHeld.2.2.2.2.2.2.2.2.2.2.2.2.1 b10), (keepR (W := W9) hHeld.2.2.2.2.2.2.2.2.2.2.2.2.2 b10)⟩ (fun hHeld => ?_)
      clear hK K
      try simp only [Act.put, List.setIfInBounds_toArray, List.set_cons_zero, List.set_cons_succ, List.getElem_toArray, List.getElem_cons_zero, List.getElem_cons_succ]
      obtain ⟨ao_u, L_u, cap_u, rfl, hL_u, hM_u⟩ := o_u10.form
      have o_u10 : Hid (Own W10 W9.heap.size W10.heap.size 5 (.slice ao_u L_u cap_u) (bs cb)) := o_u10
      clear hL_u hM_u
      have z10 : W9.heap.size ≤ W10.heap.size := b10.size
      have B10 : Hid (Below w.heap.size w W10) := B9.out.trans (b10.mono B9.out.size)
      have r_m10 : Hid (W10.heap[W1.heap.size]? = some (.cells #[.int .i64 m.k, .int .i64 m.f, .int .i64 m.t, .int .i64 m.h.n, .string m.h.r, .int .i64 m.n, .slice ao_p L_p cap_p] 28 (0, 0))) := rowKeep r_m9.out b10
      have r_y10 : Hid (W10.heap[W5.heap.size]? = some (.cells #[.int .i64 y.k, .int .i64 y.f, .int .i64 y.t, .int .i64 y.h.n, .string y.h.r, .int .i64 y.n, .slice ao_y L_y cap_y] 28 (0, 0))) := rowKeep r_y9.out b10
      have r_z10 : Hid (W10.heap[W7.heap.size]? = some (.cells #[.int .i64 y.k, .int .i64 y.f, .int .i64 y.t, .int .i64 y.h.n, .string y.h.r, .int .i64 y.n, .slice ao_z L_z cap_z] 28 (0, 0))) := rowKeep r_z9.out b10
      have o_p10 : Hid (Own W10 (w.heap.size) (W1.heap.size) 9 (.slice ao_p L_p cap_p) (ss m.x)) := Own.later o_p9.out b10 (by omega)
      have o_b10 : Hid (Own W10 (W2.heap.size) (W3.heap.size) 5 (.slice ao_b P.length cap_b) (bs P)) := Own.later o_b9.out b10 (by omega)
      have o_y10 : Hid (Own W10 (W4.heap.size) (W5.heap.size) 9 (.slice ao_y L_y cap_y) (ss y.x)) := Own.later o_y9.out b10 (by omega)
      have o_z10 : Hid (Own W10 (W6.heap.size) (W7.heap.size) 9 (.slice ao_z L_z cap_z) (ss y.x)) := Own.later o_z9.out b10 (by omega)
      have c_m10_0 : W10.cell? ⟨W1.heap.size, 0, none⟩ = some (.int .i64 m.k) := row_at r_m10.out 0
      have c_m10_1 : W10.cell? ⟨W1.heap.size, 1, none⟩ = some (.int .i64 m.f) := row_at r_m10.out 1
      have c_m10_2 : W10.cell? ⟨W1.heap.size, 2, none⟩ = some (.int .i64 m.t) := row_at r_m10.out 2
      have c_m10_3 : W10.cell? ⟨W1.heap.size, 3, none⟩ = some (.int .i64 m.h.n) := row_at r_m10.out 3
      have c_m10_4 : W10.cell? ⟨W1.heap.size, 4, none⟩ = some (.string m.h.r) := row_at r_m10.out 4
      have c_m10_5 : W10.cell? ⟨W1.heap.size, 5, none⟩ = some (.int .i64 m.n) := row_at r_m10.out 5
      have c_m10_6 : W10.cell? ⟨W1.heap.size, 6, none⟩ = some (.slice ao_p L_p cap_p) := row_at r_m10.out 6
      have c_y10_0 : W10.cell? ⟨W5.heap.size, 0, none⟩ = some (.int .i64 y.k) := row_at r_y10.out 0
      have c_y10_1 : W10.cell? ⟨W5.heap.size, 1, none⟩ = some (.int .i64 y.f) := row_at r_y10.out 1
      have c_y10_2 : W10.cell? ⟨W5.heap.size, 2, none⟩ = some (.int .i64 y.t) := row_at r_y10.out 2
      have c_y10_3 : W10.cell? ⟨W5.heap.size, 3, none⟩ = some (.int .i64 y.h.n) := row_at r_y10.out 3
      have c_y10_4 : W10.cell? ⟨W5.heap.size, 4, none⟩ = some (.string y.h.r) := row_at r_y10.out 4
      have c_y10_5 : W10.cell? ⟨W5.heap.size, 5, none⟩ = some (.int .i64 y.n) := row_at r_y10.out 5
      have c_y10_6 : W10.cell? ⟨W5.heap.size, 6, none⟩ = some (.slice ao_y L_y cap_y) := row_at r_y10.out 6
      have c_z10_0 : W10.cell? ⟨W7.heap.size, 0, none⟩ = some (.int .i64 y.k) := row_at r_z10.out 0
      have c_z10_1 : W10.cell? ⟨W7.heap.size, 1, none⟩ = some (.int .i64 y.f) := row_at r_z10.out 1
      have c_z10_2 : W10.cell? ⟨W7.heap.size, 2, none⟩ = some (.int .i64 y.t) := row_at r_z10.out 2
      have c_z10_3 : W10.cell? ⟨W7.heap.size, 3, none⟩ = some (.int .i64 y.h.n) := row_at r_z10.out 3
      have c_z10_4 : W10.cell? ⟨W7.heap.size, 4, none⟩ = some (.string y.h.r) := row_at r_z10.out 4
      have c_z10_5 : W10.cell? ⟨W7.heap.size, 5, none⟩ = some (.int .i64 y.n) := row_at r_z10.out 5
      have c_z10_6 : W10.cell? ⟨W7.heap.size, 6, none⟩ = some (.slice ao_z L_z cap_z) := row_at r_z10.out 6
      clear r_m9 c_m9_0 c_m9_1 c_m9_2 c_m9_3 c_m9_4 c_m9_5 c_m9_6 r_y9 c_y9_0 c_y9_1 c_y9_2 c_y9_3 c_y9_4 c_y9_5 c_y9_6 r_z9 c_z9_0 c_z9_1 c_z9_2 c_z9_3 c_z9_4 c_z9_5 c_z9_6 o_p9 o_b9 o_y9 o_z9
      have f_c10 : Hid (Sl W10 (.slice ao_c cb.length cap_c) (bs cb)) := Sl.later f_c9.out b10
      clear f_c9
      obtain rfl : L_u = cb.length := by obtain ⟨a9, L9, c9, he, h1, h2⟩ := Mem.Own.form o_u10.out; injection he with _ he2 _; rw [bs_len] at h1 h2; omega
      refine wpAnyH_ready (rs := [8]) (by kernel_rfl) (by simp) ?_
      refine AllReadyH.cons rfl (fun K hK => ?_) AllReadyH.nil
      have cv : (convert 22 9 (.slice ao_u cb.length cap_u)).run Try.prog W10 = .ok (.string C) W10 := by have h9 := conv_sl (o_u10.out.sl) HCB.out; rw [HCC.out] at h9; exact h9
      go_simp
      refine hK.out _ _ ⟨hHeld.1, hHeld.2.1, hHeld.2.2.1, hHeld.2.2.2.1, hHeld.2.2.2.2.1, hHeld.2.2.2.2.2.1, hHeld.2.2.2.2.2.2.1, hHeld.2.2.2.2.2.2.2.1, hHeld.2.2.2.2.2.2.2.2.1, hHeld.2.2.2.2.2.2.2.2.2.1, hHeld.2.2.2.2.2.2.2.2.2.2.1, hHeld.2.2.2.2.2.2.2.2.2.2.2.1, hHeld.2.2.2.2.2.2.2.2.2.2.2.2.1, hHeld.2.2.2.2.2.2.2.2.2.2.2.2.2⟩ (fun hHeld => ?_)
      clear hK K cv
      try simp only [Act.put, List.setIfInBounds_toArray, List.set_cons_zero, List.set_cons_succ, List.getElem_toArray, List.getElem_cons_zero, List.getElem_cons_succ]
      (refine wpAnyH_take (i := 11) (v := ?v11x54) rfl (by kernel_rfl) (by kernel_rfl) (by kernel_rfl) (fun _ _ _ h => h) (Or.inl ⟨by rfl, ?hy11x54⟩) (by assumption) ?rest11x54; case hy11x54 => (intro w hSw; (try dsimp only at hSw); go_split_ands; go_simp; (try with_reducible rfl)))
      try simp only [Act.put, List.setIfInBounds_toArray, List.set_cons_zero, List.set_cons_succ, List.getElem_toArray, List.getElem_cons_zero, List.getElem_cons_succ]
      (refine wpAnyH_take (i := 12) (v := ?v12x55) rfl (by kernel_rfl) (by kernel_rfl) (by kernel_rfl) (fun _ _ _ h => h) (Or.inl ⟨by rfl, ?hy12x55⟩) (by assumption) ?rest12x55; case hy12x55 => (intro w hSw; (try dsimp only at hSw); go_split_ands; go_simp; (try with_reducible rfl)))
      try simp only [Act.put, List.setIfInBounds_toArray, List.set_cons_zero, List.set_cons_succ, List.getElem_toArray, List.getElem_cons_zero, List.getElem_cons_succ]
      (refine wpAnyH_take (i := 13) (v := ?v13x56) rfl (by kernel_rfl) (by kernel_rfl) (by kernel_rfl) (fun _ _ _ h => h) (Or.inl ⟨by rfl, ?hy13x56⟩) (by assumption) ?rest13x56; case hy13x56 => (intro w hSw; (try dsimp only at hSw); go_split_ands; go_simp; (try with_reducible rfl)))
      try simp only [Act.put, List.setIfInBounds_toArray, List.set_cons_zero, List.set_cons_succ, List.getElem_toArray, List.getElem_cons_zero, List.getElem_cons_succ]
      refine wpAnyH_done (by kernel_rfl) ?_ _
      clear hHeld
      clear o_u10
      clear o_y10
      clear o_z10
      clear f_c10
      have q3 : ∀ W v1, Sl W v1 (ss m.x) → _ := fun W v1 h1 => msgok_spec W v1 m h1 (by omega)
      have q4 : ∀ W v1, Below w.heap.size w W → Sl W v1 (ss m.x) → _ := fun W v1 hW h1 => iOk W hW v1 m h1 (by omega) HSZ.out (by omega)
      obtain ⟨A, hA⟩ : ∃ A, msgOk m = A := ⟨_, rfl⟩
      simp only [hA] at q3 q4
      have HA : Hid (msgOk m = A) := hA
      clear hA
      go_wp2_with fail
      refine (q3 W10 _ o_p10.out.sl).mono ?_
      rintro e W11 ⟨rfl, b11⟩
      have z11 : W10.heap.size ≤ W11.heap.size := b11.size
      have B11 : Hid (Below w.heap.size w W11) := B10.out.trans (b11.mono B10.out.size)
      have r_m11 : Hid (W11.heap[W1.heap.size]? = some (.cells #[.int .i64 m.k, .int .i64 m.f, .int .i64 m.t, .int .i64 m.h.n, .string m.h.r, .int .i64 m.n, .slice ao_p L_p cap_p] 28 (0, 0))) := rowKeep r_m10.out b11
      have r_y11 : Hid (W11.heap[W5.heap.size]? = some (.cells #[.int .i64 y.k, .int .i64 y.f, .int .i64 y.t, .int .i64 y.h.n, .string y.h.r, .int .i64 y.n, .slice ao_y L_y cap_y] 28 (0, 0))) := rowKeep r_y10.out b11
      have r_z11 : Hid (W11.heap[W7.heap.size]? = some (.cells #[.int .i64 y.k, .int .i64 y.f, .int .i64 y.t, .int .i64 y.h.n, .string y.h.r, .int .i64 y.n, .slice ao_z L_z cap_z] 28 (0, 0))) := rowKeep r_z10.out b11
      have o_p11 : Hid (Own W11 (w.heap.size) (W1.heap.size) 9 (.slice ao_p L_p cap_p) (ss m.x)) := Own.later o_p10.out b11 (by omega)
      have o_b11 : Hid (Own W11 (W2.heap.size) (W3.heap.size) 5 (.slice ao_b P.length cap_b) (bs P)) := Own.later o_b10.out b11 (by omega)
      have c_m11_0 : W11.cell? ⟨W1.heap.size, 0, none⟩ = some (.int .i64 m.k) := row_at r_m11.out 0
      have c_m11_1 : W11.cell? ⟨W1.heap.size, 1, none⟩ = some (.int .i64 m.f) := row_at r_m11.out 1
      have c_m11_2 : W11.cell? ⟨W1.heap.size, 2, none⟩ = some (.int .i64 m.t) := row_at r_m11.out 2
      have c_m11_3 : W11.cell? ⟨W1.heap.size, 3, none⟩ = some (.int .i64 m.h.n) := row_at r_m11.out 3
      have c_m11_4 : W11.cell? ⟨W1.heap.size, 4, none⟩ = some (.string m.h.r) := row_at r_m11.out 4
      have c_m11_5 : W11.cell? ⟨W1.heap.size, 5, none⟩ = some (.int .i64 m.n) := row_at r_m11.out 5
      have c_m11_6 : W11.cell? ⟨W1.heap.size, 6, none⟩ = some (.slice ao_p L_p cap_p) := row_at r_m11.out 6
      have c_y11_0 : W11.cell? ⟨W5.heap.size, 0, none⟩ = some (.int .i64 y.k) := row_at r_y11.out 0
      have c_y11_1 : W11.cell? ⟨W5.heap.size, 1, none⟩ = some (.int .i64 y.f) := row_at r_y11.out 1
      have c_y11_2 : W11.cell? ⟨W5.heap.size, 2, none⟩ = some (.int .i64 y.t) := row_at r_y11.out 2
      have c_y11_3 : W11.cell? ⟨W5.heap.size, 3, none⟩ = some (.int .i64 y.h.n) := row_at r_y11.out 3
      have c_y11_4 : W11.cell? ⟨W5.heap.size, 4, none⟩ = some (.string y.h.r) := row_at r_y11.out 4
      have c_y11_5 : W11.cell? ⟨W5.heap.size, 5, none⟩ = some (.int .i64 y.n) := row_at r_y11.out 5
      have c_y11_6 : W11.cell? ⟨W5.heap.size, 6, none⟩ = some (.slice ao_y L_y cap_y) := row_at r_y11.out 6
      have c_z11_0 : W11.cell? ⟨W7.heap.size, 0, none⟩ = some (.int .i64 y.k) := row_at r_z11.out 0
      have c_z11_1 : W11.cell? ⟨W7.heap.size, 1, none⟩ = some (.int .i64 y.f) := row_at r_z11.out 1
      have c_z11_2 : W11.cell? ⟨W7.heap.size, 2, none⟩ = some (.int .i64 y.t) := row_at r_z11.out 2
      have c_z11_3 : W11.cell? ⟨W7.heap.size, 3, none⟩ = some (.int .i64 y.h.n) := row_at r_z11.out 3
      have c_z11_4 : W11.cell? ⟨W7.heap.size, 4, none⟩ = some (.string y.h.r) := row_at r_z11.out 4
      have c_z11_5 : W11.cell? ⟨W7.heap.size, 5, none⟩ = some (.int .i64 y.n) := row_at r_z11.out 5
      have c_z11_6 : W11.cell? ⟨W7.heap.size, 6, none⟩ = some (.slice ao_z L_z cap_z) := row_at r_z11.out 6
      clear r_m10 c_m10_0 c_m10_1 c_m10_2 c_m10_3 c_m10_4 c_m10_5 c_m10_6 r_y10 c_y10_0 c_y10_1 c_y10_2 c_y10_3 c_y10_4 c_y10_5 c_y10_6 r_z10 c_z10_0 c_z10_1 c_z10_2 c_z10_3 c_z10_4 c_z10_5 c_z10_6 o_p10 o_b10
      clear q3
      cases A
      · have e9 : P = [] := by rw [← HP.out]; unfold putM; rw [HA.out]; rfl
        have hp0 : (P.length : Int) = 0 := by rw [e9]; rfl
        have hpb : ((P.length : Int) == 0) = true := by rw [hp0]; rfl
        clear e9
        go_wp2_with fail
        refine (q4 W11 _ B11.out o_p11.out.sl).mono ?_
        rintro e W12 ⟨rfl, b12⟩
        have z12 : W11.heap.size ≤ W12.heap.size := b12.size
        have B12 : Hid (Below w.heap.size w W12) := B11.out.trans (b12.mono B11.out.size)
        have r_m12 : Hid (W12.heap[W1.heap.size]? = some (.cells #[.int .i64 m.k, .int .i64 m.f, .int .i64 m.t, .int .i64 m.h.n, .string m.h.r, .int .i64 m.n, .slice ao_p L_p cap_p] 28 (0, 0))) := rowKeep r_m11.out b12
        have r_y12 : Hid (W12.heap[W5.heap.size]? = some (.cells #[.int .i64 y.k, .int .i64 y.f, .int .i64 y.t, .int .i64 y.h.n, .string y.h.r, .int .i64 y.n, .slice ao_y L_y cap_y] 28 (0, 0))) := rowKeep r_y11.out b12
        have r_z12 : Hid (W12.heap[W7.heap.size]? = some (.cells #[.int .i64 y.k, .int .i64 y.f, .int .i64 y.t, .int .i64 y.h.n, .string y.h.r, .int .i64 y.n, .slice ao_z L_z cap_z] 28 (0, 0))) := rowKeep r_z11.out b12
        have o_p12 : Hid (Own W12 (w.heap.size) (W1.heap.size) 9 (.slice ao_p L_p cap_p) (ss m.x)) := Own.later o_p11.out b12 (by omega)
        have o_b12 : Hid (Own W12 (W2.heap.size) (W3.heap.size) 5 (.slice ao_b P.length cap_b) (bs P)) := Own.later o_b11.out b12 (by omega)
        have c_m12_0 : W12.cell? ⟨W1.heap.size, 0, none⟩ = some (.int .i64 m.k) := row_at r_m12.out 0
        have c_m12_1 : W12.cell? ⟨W1.heap.size, 1, none⟩ = some (.int .i64 m.f) := row_at r_m12.out 1
        have c_m12_2 : W12.cell? ⟨W1.heap.size, 2, none⟩ = some (.int .i64 m.t) := row_at r_m12.out 2
        have c_m12_3 : W12.cell? ⟨W1.heap.size, 3, none⟩ = some (.int .i64 m.h.n) := row_at r_m12.out 3
        have c_m12_4 : W12.cell? ⟨W1.heap.size, 4, none⟩ = some (.string m.h.r) := row_at r_m12.out 4
        have c_m12_5 : W12.cell? ⟨W1.heap.size, 5, none⟩ = some (.int .i64 m.n) := row_at r_m12.out 5
        have c_m12_6 : W12.cell? ⟨W1.heap.size, 6, none⟩ = some (.slice ao_p L_p cap_p) := row_at r_m12.out 6
        have c_y12_0 : W12.cell? ⟨W5.heap.size, 0, none⟩ = some (.int .i64 y.k) := row_at r_y12.out 0
        have c_y12_1 : W12.cell? ⟨W5.heap.size, 1, none⟩ = some (.int .i64 y.f) := row_at r_y12.out 1
        have c_y12_2 : W12.cell? ⟨W5.heap.size, 2, none⟩ = some (.int .i64 y.t) := row_at r_y12.out 2
        have c_y12_3 : W12.cell? ⟨W5.heap.size, 3, none⟩ = some (.int .i64 y.h.n) := row_at r_y12.out 3
        have c_y12_4 : W12.cell? ⟨W5.heap.size, 4, none⟩ = some (.string y.h.r) := row_at r_y12.out 4
        have c_y12_5 : W12.cell? ⟨W5.heap.size, 5, none⟩ = some (.int .i64 y.n) := row_at r_y12.out 5
        have c_y12_6 : W12.cell? ⟨W5.heap.size, 6, none⟩ = some (.slice ao_y L_y cap_y) := row_at r_y12.out 6
        have c_z12_0 : W12.cell? ⟨W7.heap.size, 0, none⟩ = some (.int .i64 y.k) := row_at r_z12.out 0
        have c_z12_1 : W12.cell? ⟨W7.heap.size, 1, none⟩ = some (.int .i64 y.f) := row_at r_z12.out 1
        have c_z12_2 : W12.cell? ⟨W7.heap.size, 2, none⟩ = some (.int .i64 y.t) := row_at r_z12.out 2
        have c_z12_3 : W12.cell? ⟨W7.heap.size, 3, none⟩ = some (.int .i64 y.h.n) := row_at r_z12.out 3
        have c_z12_4 : W12.cell? ⟨W7.heap.size, 4, none⟩ = some (.string y.h.r) := row_at r_z12.out 4
        have c_z12_5 : W12.cell? ⟨W7.heap.size, 5, none⟩ = some (.int .i64 y.n) := row_at r_z12.out 5
        have c_z12_6 : W12.cell? ⟨W7.heap.size, 6, none⟩ = some (.slice ao_z L_z cap_z) := row_at r_z12.out 6
        clear r_m11 c_m11_0 c_m11_1 c_m11_2 c_m11_3 c_m11_4 c_m11_5 c_m11_6 r_y11 c_y11_0 c_y11_1 c_y11_2 c_y11_3 c_y11_4 c_y11_5 c_y11_6 r_z11 c_z11_0 c_z11_1 c_z11_2 c_z11_3 c_z11_4 c_z11_5 c_z11_6 o_p11 o_b11
        go_wp2
        go_ret
        exact ⟨rfl, B12.out⟩
      · have e9 : P = bytesM m := by rw [← HP.out]; unfold putM; rw [HA.out]; rfl
        have g9 := get_putM HA.out (fun s h => Nat.le_trans (HSZ.out s h) (by omega))
        rw [← e9] at g9
        have hPb9 : P.length ≤ 400 := by rw [e9]; exact hbs
        have HPY : Hid (Byt P) := by show Byt P; rw [e9]; exact bytes_byt m
        have q5 : ∀ W v1, Below w.heap.size w W → Sl W v1 (bs P) → _ := fun W v1 hW h1 => iGet W hW v1 P h1 HPY.out (by omega)
        unfold GotM at q5
        simp only [g9] at q5
        clear g9 e9 q4
        go_wp2_with fail
        refine (q5 W11 _ B11.out o_b11.out.sl).mono ?_
        rintro e W12 ⟨v_x, rfl, o_x12, b12⟩
        obtain ⟨ao_x, L_x, cap_x, rfl, hL_x, hM_x⟩ := o_x12.form
        have o_x12 : Hid (Own W12 W11.heap.size W12.heap.size 9 (.slice ao_x L_x cap_x) (ss m.x)) := o_x12
        clear hL_x hM_x
        have z12 : W11.heap.size ≤ W12.heap.size := b12.size
        have B12 : Hid (Below w.heap.size w W12) := B11.out.trans (b12.mono B11.out.size)
        have r_m12 : Hid (W12.heap[W1.heap.size]? = some (.cells #[.int .i64 m.k, .int .i64 m.f, .int .i64 m.t, .int .i64 m.h.n, .string m.h.r, .int .i64 m.n, .slice ao_p L_p cap_p] 28 (0, 0))) := rowKeep r_m11.out b12
        have r_y12 : Hid (W12.heap[W5.heap.size]? = some (.cells #[.int .i64 y.k, .int .i64 y.f, .int .i64 y.t, .int .i64 y.h.n, .string y.h.r, .int .i64 y.n, .slice ao_y L_y cap_y] 28 (0, 0))) := rowKeep r_y11.out b12
        have r_z12 : Hid (W12.heap[W7.heap.size]? = some (.cells #[.int .i64 y.k, .int .i64 y.f, .int .i64 y.t, .int .i64 y.h.n, .string y.h.r, .int .i64 y.n, .slice ao_z L_z cap_z] 28 (0, 0))) := rowKeep r_z11.out b12
        have o_p12 : Hid (Own W12 (w.heap.size) (W1.heap.size) 9 (.slice ao_p L_p cap_p) (ss m.x)) := Own.later o_p11.out b12 (by omega)
        have o_b12 : Hid (Own W12 (W2.heap.size) (W3.heap.size) 5 (.slice ao_b P.length cap_b) (bs P)) := Own.later o_b11.out b12 (by omega)
        have c_m12_0 : W12.cell? ⟨W1.heap.size, 0, none⟩ = some (.int .i64 m.k) := row_at r_m12.out 0
        have c_m12_1 : W12.cell? ⟨W1.heap.size, 1, none⟩ = some (.int .i64 m.f) := row_at r_m12.out 1
        have c_m12_2 : W12.cell? ⟨W1.heap.size, 2, none⟩ = some (.int .i64 m.t) := row_at r_m12.out 2
        have c_m12_3 : W12.cell? ⟨W1.heap.size, 3, none⟩ = some (.int .i64 m.h.n) := row_at r_m12.out 3
        have c_m12_4 : W12.cell? ⟨W1.heap.size, 4, none⟩ = some (.string m.h.r) := row_at r_m12.out 4
        have c_m12_5 : W12.cell? ⟨W1.heap.size, 5, none⟩ = some (.int .i64 m.n) := row_at r_m12.out 5
        have c_m12_6 : W12.cell? ⟨W1.heap.size, 6, none⟩ = some (.slice ao_p L_p cap_p) := row_at r_m12.out 6
        have c_y12_0 : W12.cell? ⟨W5.heap.size, 0, none⟩ = some (.int .i64 y.k) := row_at r_y12.out 0
        have c_y12_1 : W12.cell? ⟨W5.heap.size, 1, none⟩ = some (.int .i64 y.f) := row_at r_y12.out 1
        have c_y12_2 : W12.cell? ⟨W5.heap.size, 2, none⟩ = some (.int .i64 y.t) := row_at r_y12.out 2
        have c_y12_3 : W12.cell? ⟨W5.heap.size, 3, none⟩ = some (.int .i64 y.h.n) := row_at r_y12.out 3
        have c_y12_4 : W12.cell? ⟨W5.heap.size, 4, none⟩ = some (.string y.h.r) := row_at r_y12.out 4
        have c_y12_5 : W12.cell? ⟨W5.heap.size, 5, none⟩ = some (.int .i64 y.n) := row_at r_y12.out 5
        have c_y12_6 : W12.cell? ⟨W5.heap.size, 6, none⟩ = some (.slice ao_y L_y cap_y) := row_at r_y12.out 6
        have c_z12_0 : W12.cell? ⟨W7.heap.size, 0, none⟩ = some (.int .i64 y.k) := row_at r_z12.out 0
        have c_z12_1 : W12.cell? ⟨W7.heap.size, 1, none⟩ = some (.int .i64 y.f) := row_at r_z12.out 1
        have c_z12_2 : W12.cell? ⟨W7.heap.size, 2, none⟩ = some (.int .i64 y.t) := row_at r_z12.out 2
        have c_z12_3 : W12.cell? ⟨W7.heap.size, 3, none⟩ = some (.int .i64 y.h.n) := row_at r_z12.out 3
        have c_z12_4 : W12.cell? ⟨W7.heap.size, 4, none⟩ = some (.string y.h.r) := row_at r_z12.out 4
        have c_z12_5 : W12.cell? ⟨W7.heap.size, 5, none⟩ = some (.int .i64 y.n) := row_at r_z12.out 5
        have c_z12_6 : W12.cell? ⟨W7.heap.size, 6, none⟩ = some (.slice ao_z L_z cap_z) := row_at r_z12.out 6
        clear r_m11 c_m11_0 c_m11_1 c_m11_2 c_m11_3 c_m11_4 c_m11_5 c_m11_6 r_y11 c_y11_0 c_y11_1 c_y11_2 c_y11_3 c_y11_4 c_y11_5 c_y11_6 r_z11 c_z11_0 c_z11_1 c_z11_2 c_z11_3 c_z11_4 c_z11_5 c_z11_6 o_p11 o_b11
        have a_m12_0 : ∀ o, (W12.alloc o).cell? ⟨W1.heap.size, 0, none⟩ = some (.int .i64 m.k) := fun o => keepR c_m12_0 ((Below.refl _ _).alloc (Nat.le_refl _) o)
        have a_m12_1 : ∀ o, (W12.alloc o).cell? ⟨W1.heap.size, 1, none⟩ = some (.int .i64 m.f) := fun o => keepR c_m12_1 ((Below.refl _ _).alloc (Nat.le_refl _) o)
        have a_m12_2 : ∀ o, (W12.alloc o).cell? ⟨W1.heap.size, 2, none⟩ = some (.int .i64 m.t) := fun o => keepR c_m12_2 ((Below.refl _ _).alloc (Nat.le_refl _) o)
        have a_m12_3 : ∀ o, (W12.alloc o).cell? ⟨W1.heap.size, 3, none⟩ = some (.int .i64 m.h.n) := fun o => keepR c_m12_3 ((Below.refl _ _).alloc (Nat.le_refl _) o)
        have a_m12_4 : ∀ o, (W12.alloc o).cell? ⟨W1.heap.size, 4, none⟩ = some (.string m.h.r) := fun o => keepR c_m12_4 ((Below.refl _ _).alloc (Nat.le_refl _) o)
        have a_m12_5 : ∀ o, (W12.alloc o).cell? ⟨W1.heap.size, 5, none⟩ = some (.int .i64 m.n) := fun o => keepR c_m12_5 ((Below.refl _ _).alloc (Nat.le_refl _) o)
        have a_m12_6 : ∀ o, (W12.alloc o).cell? ⟨W1.heap.size, 6, none⟩ = some (.slice ao_p L_p cap_p) := fun o => keepR c_m12_6 ((Below.refl _ _).alloc (Nat.le_refl _) o)
        have a_y12_0 : ∀ o, (W12.alloc o).cell? ⟨W5.heap.size, 0, none⟩ = some (.int .i64 y.k) := fun o => keepR c_y12_0 ((Below.refl _ _).alloc (Nat.le_refl _) o)
        have a_y12_1 : ∀ o, (W12.alloc o).cell? ⟨W5.heap.size, 1, none⟩ = some (.int .i64 y.f) := fun o => keepR c_y12_1 ((Below.refl _ _).alloc (Nat.le_refl _) o)
        have a_y12_2 : ∀ o, (W12.alloc o).cell? ⟨W5.heap.size, 2, none⟩ = some (.int .i64 y.t) := fun o => keepR c_y12_2 ((Below.refl _ _).alloc (Nat.le_refl _) o)
        have a_y12_3 : ∀ o, (W12.alloc o).cell? ⟨W5.heap.size, 3, none⟩ = some (.int .i64 y.h.n) := fun o => keepR c_y12_3 ((Below.refl _ _).alloc (Nat.le_refl _) o)
        have a_y12_4 : ∀ o, (W12.alloc o).cell? ⟨W5.heap.size, 4, none⟩ = some (.string y.h.r) := fun o => keepR c_y12_4 ((Below.refl _ _).alloc (Nat.le_refl _) o)
        have a_y12_5 : ∀ o, (W12.alloc o).cell? ⟨W5.heap.size, 5, none⟩ = some (.int .i64 y.n) := fun o => keepR c_y12_5 ((Below.refl _ _).alloc (Nat.le_refl _) o)
        have a_y12_6 : ∀ o, (W12.alloc o).cell? ⟨W5.heap.size, 6, none⟩ = some (.slice ao_y L_y cap_y) := fun o => keepR c_y12_6 ((Below.refl _ _).alloc (Nat.le_refl _) o)
        have a_z12_0 : ∀ o, (W12.alloc o).cell? ⟨W7.heap.size, 0, none⟩ = some (.int .i64 y.k) := fun o => keepR c_z12_0 ((Below.refl _ _).alloc (Nat.le_refl _) o)
        have a_z12_1 : ∀ o, (W12.alloc o).cell? ⟨W7.heap.size, 1, none⟩ = some (.int .i64 y.f) := fun o => keepR c_z12_1 ((Below.refl _ _).alloc (Nat.le_refl _) o)
        have a_z12_2 : ∀ o, (W12.alloc o).cell? ⟨W7.heap.size, 2, none⟩ = some (.int .i64 y.t) := fun o => keepR c_z12_2 ((Below.refl _ _).alloc (Nat.le_refl _) o)
        have a_z12_3 : ∀ o, (W12.alloc o).cell? ⟨W7.heap.size, 3, none⟩ = some (.int .i64 y.h.n) := fun o => keepR c_z12_3 ((Below.refl _ _).alloc (Nat.le_refl _) o)
        have a_z12_4 : ∀ o, (W12.alloc o).cell? ⟨W7.heap.size, 4, none⟩ = some (.string y.h.r) := fun o => keepR c_z12_4 ((Below.refl _ _).alloc (Nat.le_refl _) o)
        have a_z12_5 : ∀ o, (W12.alloc o).cell? ⟨W7.heap.size, 5, none⟩ = some (.int .i64 y.n) := fun o => keepR c_z12_5 ((Below.refl _ _).alloc (Nat.le_refl _) o)
        have a_z12_6 : ∀ o, (W12.alloc o).cell? ⟨W7.heap.size, 6, none⟩ = some (.slice ao_z L_z cap_z) := fun o => keepR c_z12_6 ((Below.refl _ _).alloc (Nat.le_refl _) o)
        obtain ⟨W13, HW13, b13, y13, hS13, r_x13⟩ : ∃ X, Hid ((W12.alloc (.cells #[.int .i64 m.k, .int .i64 m.f, .int .i64 m.t, .int .i64 m.h.n, .string m.h.r, .int .i64 m.n, .slice ao_x L_x cap_x] 28)) = X) ∧ Below W12.heap.size W12 X ∧ W12.heap.size + 1 ≤ X.heap.size ∧ Hid (X.heap.size = W12.heap.size + 1) ∧ Hid (X.heap[W12.heap.size]? = some (.cells #[.int .i64 m.k, .int .i64 m.f, .int .i64 m.t, .int .i64 m.h.n, .string m.h.r, .int .i64 m.n, .slice ao_x L_x cap_x] 28 (0, 0))) := ⟨_, rfl, ((Below.refl _ _).alloc (Nat.le_refl _) _), by simp, by show _ = _; simp, (by show _ = _; exact alloc_nth1_0 W12 _)⟩
        have z13 : W12.heap.size ≤ W13.heap.size := b13.size
        have B13 : Hid (Below w.heap.size w W13) := B12.out.trans (b13.mono B12.out.size)
        have r_m13 : Hid (W13.heap[W1.heap.size]? = some (.cells #[.int .i64 m.k, .int .i64 m.f, .int .i64 m.t, .int .i64 m.h.n, .string m.h.r, .int .i64 m.n, .slice ao_p L_p cap_p] 28 (0, 0))) := rowKeep r_m12.out b13
        have r_y13 : Hid (W13.heap[W5.heap.size]? = some (.cells #[.int .i64 y.k, .int .i64 y.f, .int .i64 y.t, .int .i64 y.h.n, .string y.h.r, .int .i64 y.n, .slice ao_y L_y cap_y] 28 (0, 0))) := rowKeep r_y12.out b13
        have r_z13 : Hid (W13.heap[W7.heap.size]? = some (.cells #[.int .i64 y.k, .int .i64 y.f, .int .i64 y.t, .int .i64 y.h.n, .string y.h.r, .int .i64 y.n, .slice ao_z L_z cap_z] 28 (0, 0))) := rowKeep r_z12.out b13
        have o_p13 : Hid (Own W13 (w.heap.size) (W1.heap.size) 9 (.slice ao_p L_p cap_p) (ss m.x)) := Own.later o_p12.out b13 (by omega)
        have o_b13 : Hid (Own W13 (W2.heap.size) (W3.heap.size) 5 (.slice ao_b P.length cap_b) (bs P)) := Own.later o_b12.out b13 (by omega)
        have o_x13 : Hid (Own W13 (W11.heap.size) (W12.heap.size) 9 (.slice ao_x L_x cap_x) (ss m.x)) := Own.later o_x12.out b13 (by omega)
        have c_m13_0 : W13.cell? ⟨W1.heap.size, 0, none⟩ = some (.int .i64 m.k) := row_at r_m13.out 0
        have c_m13_1 : W13.cell? ⟨W1.heap.size, 1, none⟩ = some (.int .i64 m.f) := row_at r_m13.out 1
        have c_m13_2 : W13.cell? ⟨W1.heap.size, 2, none⟩ = some (.int .i64 m.t) := row_at r_m13.out 2
        have c_m13_3 : W13.cell? ⟨W1.heap.size, 3, none⟩ = some (.int .i64 m.h.n) := row_at r_m13.out 3
        have c_m13_4 : W13.cell? ⟨W1.heap.size, 4, none⟩ = some (.string m.h.r) := row_at r_m13.out 4
        have c_m13_5 : W13.cell? ⟨W1.heap.size, 5, none⟩ = some (.int .i64 m.n) := row_at r_m13.out 5
        have c_m13_6 : W13.cell? ⟨W1.heap.size, 6, none⟩ = some (.slice ao_p L_p cap_p) := row_at r_m13.out 6
        have c_y13_0 : W13.cell? ⟨W5.heap.size, 0, none⟩ = some (.int .i64 y.k) := row_at r_y13.out 0
        have c_y13_1 : W13.cell? ⟨W5.heap.size, 1, none⟩ = some (.int .i64 y.f) := row_at r_y13.out 1
        have c_y13_2 : W13.cell? ⟨W5.heap.size, 2, none⟩ = some (.int .i64 y.t) := row_at r_y13.out 2
        have c_y13_3 : W13.cell? ⟨W5.heap.size, 3, none⟩ = some (.int .i64 y.h.n) := row_at r_y13.out 3
        have c_y13_4 : W13.cell? ⟨W5.heap.size, 4, none⟩ = some (.string y.h.r) := row_at r_y13.out 4
        have c_y13_5 : W13.cell? ⟨W5.heap.size, 5, none⟩ = some (.int .i64 y.n) := row_at r_y13.out 5
        have c_y13_6 : W13.cell? ⟨W5.heap.size, 6, none⟩ = some (.slice ao_y L_y cap_y) := row_at r_y13.out 6
        have c_z13_0 : W13.cell? ⟨W7.heap.size, 0, none⟩ = some (.int .i64 y.k) := row_at r_z13.out 0
        have c_z13_1 : W13.cell? ⟨W7.heap.size, 1, none⟩ = some (.int .i64 y.f) := row_at r_z13.out 1
        have c_z13_2 : W13.cell? ⟨W7.heap.size, 2, none⟩ = some (.int .i64 y.t) := row_at r_z13.out 2
        have c_z13_3 : W13.cell? ⟨W7.heap.size, 3, none⟩ = some (.int .i64 y.h.n) := row_at r_z13.out 3
        have c_z13_4 : W13.cell? ⟨W7.heap.size, 4, none⟩ = some (.string y.h.r) := row_at r_z13.out 4
        have c_z13_5 : W13.cell? ⟨W7.heap.size, 5, none⟩ = some (.int .i64 y.n) := row_at r_z13.out 5
        have c_z13_6 : W13.cell? ⟨W7.heap.size, 6, none⟩ = some (.slice ao_z L_z cap_z) := row_at r_z13.out 6
        have c_x13_0 : W13.cell? ⟨W12.heap.size, 0, none⟩ = some (.int .i64 m.k) := row_at r_x13.out 0
        have c_x13_1 : W13.cell? ⟨W12.heap.size, 1, none⟩ = some (.int .i64 m.f) := row_at r_x13.out 1
        have c_x13_2 : W13.cell? ⟨W12.heap.size, 2, none⟩ = some (.int .i64 m.t) := row_at r_x13.out 2
        have c_x13_3 : W13.cell? ⟨W12.heap.size, 3, none⟩ = some (.int .i64 m.h.n) := row_at r_x13.out 3
        have c_x13_4 : W13.cell? ⟨W12.heap.size, 4, none⟩ = some (.string m.h.r) := row_at r_x13.out 4
        have c_x13_5 : W13.cell? ⟨W12.heap.size, 5, none⟩ = some (.int .i64 m.n) := row_at r_x13.out 5
        have c_x13_6 : W13.cell? ⟨W12.heap.size, 6, none⟩ = some (.slice ao_x L_x cap_x) := row_at r_x13.out 6
        clear r_m12 c_m12_0 c_m12_1 c_m12_2 c_m12_3 c_m12_4 c_m12_5 c_m12_6 r_y12 c_y12_0 c_y12_1 c_y12_2 c_y12_3 c_y12_4 c_y12_5 c_y12_6 r_z12 c_z12_0 c_z12_1 c_z12_2 c_z12_3 c_z12_4 c_z12_5 c_z12_6 o_p12 o_b12 o_x12
        have n_k : (m.k == m.k) = true := by simp
        have n_f : (m.f == m.f) = true := by simp
        have n_t : (m.t == m.t) = true := by simp
        have n_n : (m.n == m.n) = true := by simp
        have e1 : ∀ W, (binOp .eql 25 (.agg #[.int .i64 m.h.n, .string m.h.r]) (.agg #[.int .i64 m.h.n, .string m.h.r])).run Try.prog W = .ok (.bool true) W := fun W => by have h9 := eqlH W m.h m.h; rw [(eqH_iff _ _).2 rfl] at h9; exact h9
        have e2 : ∀ W op y z xs ys, _ := fun W op y z xs ys => grdH W op y z xs ys
        go_wp2_with fail
        rw [HW13.out]
        clear a_m12_0 a_m12_1 a_m12_2 a_m12_3 a_m12_4 a_m12_5 a_m12_6 a_y12_0 a_y12_1 a_y12_2 a_y12_3 a_y12_4 a_y12_5 a_y12_6 a_z12_0 a_z12_1 a_z12_2 a_z12_3 a_z12_4 a_z12_5 a_z12_6
        refine (same_true W13 _ _ m.x o_x13.out.sl o_p13.out.sl (by omega)).mono ?_
        rintro e W14 ⟨rfl, h14, _⟩
        have b14 : Below W13.heap.size W13 W14 := h14 _
        clear h14
        have z14 : W13.heap.size ≤ W14.heap.size := b14.size
        have B14 : Hid (Below w.heap.size w W14) := B13.out.trans (b14.mono B13.out.size)
        have r_m14 : Hid (W14.heap[W1.heap.size]? = some (.cells #[.int .i64 m.k, .int .i64 m.f, .int .i64 m.t, .int .i64 m.h.n, .string m.h.r, .int .i64 m.n, .slice ao_p L_p cap_p] 28 (0, 0))) := rowKeep r_m13.out b14
        have r_y14 : Hid (W14.heap[W5.heap.size]? = some (.cells #[.int .i64 y.k, .int .i64 y.f, .int .i64 y.t, .int .i64 y.h.n, .string y.h.r, .int .i64 y.n, .slice ao_y L_y cap_y] 28 (0, 0))) := rowKeep r_y13.out b14
        have r_z14 : Hid (W14.heap[W7.heap.size]? = some (.cells #[.int .i64 y.k, .int .i64 y.f, .int .i64 y.t, .int .i64 y.h.n, .string y.h.r, .int .i64 y.n, .slice ao_z L_z cap_z] 28 (0, 0))) := rowKeep r_z13.out b14
        have r_x14 : Hid (W14.heap[W12.heap.size]? = some (.cells #[.int .i64 m.k, .int .i64 m.f, .int .i64 m.t, .int .i64 m.h.n, .string m.h.r, .int .i64 m.n, .slice ao_x L_x cap_x] 28 (0, 0))) := rowKeep r_x13.out b14
        have o_p14 : Hid (Own W14 (w.heap.size) (W1.heap.size) 9 (.slice ao_p L_p cap_p) (ss m.x)) := Own.later o_p13.out b14 (by omega)
        have o_b14 : Hid (Own W14 (W2.heap.size) (W3.heap.size) 5 (.slice ao_b P.length cap_b) (bs P)) := Own.later o_b13.out b14 (by omega)
        have o_x14 : Hid (Own W14 (W11.heap.size) (W12.heap.size) 9 (.slice ao_x L_x cap_x) (ss m.x)) := Own.later o_x13.out b14 (by omega)
        have c_m14_0 : W14.cell? ⟨W1.heap.size, 0, none⟩ = some (.int .i64 m.k) := row_at r_m14.out 0
        have c_m14_1 : W14.cell? ⟨W1.heap.size, 1, none⟩ = some (.int .i64 m.f) := row_at r_m14.out 1
        have c_m14_2 : W14.cell? ⟨W1.heap.size, 2, none⟩ = some (.int .i64 m.t) := row_at r_m14.out 2
        have c_m14_3 : W14.cell? ⟨W1.heap.size, 3, none⟩ = some (.int .i64 m.h.n) := row_at r_m14.out 3
        have c_m14_4 : W14.cell? ⟨W1.heap.size, 4, none⟩ = some (.string m.h.r) := row_at r_m14.out 4
        have c_m14_5 : W14.cell? ⟨W1.heap.size, 5, none⟩ = some (.int .i64 m.n) := row_at r_m14.out 5
        have c_m14_6 : W14.cell? ⟨W1.heap.size, 6, none⟩ = some (.slice ao_p L_p cap_p) := row_at r_m14.out 6
        have c_y14_0 : W14.cell? ⟨W5.heap.size, 0, none⟩ = some (.int .i64 y.k) := row_at r_y14.out 0
        have c_y14_1 : W14.cell? ⟨W5.heap.size, 1, none⟩ = some (.int .i64 y.f) := row_at r_y14.out 1
        have c_y14_2 : W14.cell? ⟨W5.heap.size, 2, none⟩ = some (.int .i64 y.t) := row_at r_y14.out 2
        have c_y14_3 : W14.cell? ⟨W5.heap.size, 3, none⟩ = some (.int .i64 y.h.n) := row_at r_y14.out 3
        have c_y14_4 : W14.cell? ⟨W5.heap.size, 4, none⟩ = some (.string y.h.r) := row_at r_y14.out 4
        have c_y14_5 : W14.cell? ⟨W5.heap.size, 5, none⟩ = some (.int .i64 y.n) := row_at r_y14.out 5
        have c_y14_6 : W14.cell? ⟨W5.heap.size, 6, none⟩ = some (.slice ao_y L_y cap_y) := row_at r_y14.out 6
        have c_z14_0 : W14.cell? ⟨W7.heap.size, 0, none⟩ = some (.int .i64 y.k) := row_at r_z14.out 0
        have c_z14_1 : W14.cell? ⟨W7.heap.size, 1, none⟩ = some (.int .i64 y.f) := row_at r_z14.out 1
        have c_z14_2 : W14.cell? ⟨W7.heap.size, 2, none⟩ = some (.int .i64 y.t) := row_at r_z14.out 2
        have c_z14_3 : W14.cell? ⟨W7.heap.size, 3, none⟩ = some (.int .i64 y.h.n) := row_at r_z14.out 3
        have c_z14_4 : W14.cell? ⟨W7.heap.size, 4, none⟩ = some (.string y.h.r) := row_at r_z14.out 4
        have c_z14_5 : W14.cell? ⟨W7.heap.size, 5, none⟩ = some (.int .i64 y.n) := row_at r_z14.out 5
        have c_z14_6 : W14.cell? ⟨W7.heap.size, 6, none⟩ = some (.slice ao_z L_z cap_z) := row_at r_z14.out 6
        have c_x14_0 : W14.cell? ⟨W12.heap.size, 0, none⟩ = some (.int .i64 m.k) := row_at r_x14.out 0
        have c_x14_1 : W14.cell? ⟨W12.heap.size, 1, none⟩ = some (.int .i64 m.f) := row_at r_x14.out 1
        have c_x14_2 : W14.cell? ⟨W12.heap.size, 2, none⟩ = some (.int .i64 m.t) := row_at r_x14.out 2
        have c_x14_3 : W14.cell? ⟨W12.heap.size, 3, none⟩ = some (.int .i64 m.h.n) := row_at r_x14.out 3
        have c_x14_4 : W14.cell? ⟨W12.heap.size, 4, none⟩ = some (.string m.h.r) := row_at r_x14.out 4
        have c_x14_5 : W14.cell? ⟨W12.heap.size, 5, none⟩ = some (.int .i64 m.n) := row_at r_x14.out 5
        have c_x14_6 : W14.cell? ⟨W12.heap.size, 6, none⟩ = some (.slice ao_x L_x cap_x) := row_at r_x14.out 6
        clear r_m13 c_m13_0 c_m13_1 c_m13_2 c_m13_3 c_m13_4 c_m13_5 c_m13_6 r_y13 c_y13_0 c_y13_1 c_y13_2 c_y13_3 c_y13_4 c_y13_5 c_y13_6 r_z13 c_z13_0 c_z13_1 c_z13_2 c_z13_3 c_z13_4 c_z13_5 c_z13_6 r_x13 c_x13_0 c_x13_1 c_x13_2 c_x13_3 c_x13_4 c_x13_5 c_x13_6 o_p13 o_b13 o_x13
        go_wp2
        go_ret
        exact ⟨rfl, B14.out⟩

end Go.Proofs.Yteemblfjghnooaa.Mg
