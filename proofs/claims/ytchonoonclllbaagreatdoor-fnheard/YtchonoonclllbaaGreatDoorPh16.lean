/- Texts in one: Mi4, MiI0, SrP. -/
import Derived.Test.YtchonoonclllbaaGreatDoorPh15
set_option maxHeartbeats 16000000
set_option linter.unusedVariables false
set_option linter.unusedSimpArgs false
namespace Go.Proofs.YtchonoonclllbaaGreatDoor.Mi
open Go.RowKit Mem Sha Tr He Lg Sr Mg
theorem okHead14 {l : List ByteArray} (h : l.length ≤ 200) : okH (headOf l) = true := by
 unfold headOf
 rw [if_pos h]
 unfold okH
 have h1 : (root l).size = 32 := root_size l
 simp only [h1]
 simp
 omega
theorem headN {l : List ByteArray} (h : l.length ≤ 200) : (headOf l).n = (l.length : Int) := by unfold headOf; rw [if_pos h]
theorem signed_in14 {t : List Hd} {x : Hd} (h : x ∈ t) : signed t x = true := by
 unfold signed
 rw [List.any_eq_true]
 exact ⟨x, h, (eqH_iff x x).2 rfl⟩
theorem bestF_14 (r : List Hd) : ∀ b : Hd, (bestF b r = b ∨ bestF b r ∈ r) ∧ b.n ≤ (bestF b r).n ∧ ∀ x ∈ r, x.n ≤ (bestF b r).n := by
 induction r with
 | nil => intro b; exact ⟨.inl rfl, Int.le_refl _, fun x hx => (by cases hx)⟩
 | cons q r ih =>
  intro b
  unfold bestF
  split
  ·rename_i h
   obtain ⟨h1, h2, h3⟩ := ih q
   refine ⟨.inr ?_, by omega, fun x hx => ?_⟩
   ·rcases h1 with h1 | h1
    ·rw [h1]; exact List.mem_cons_self ..
    ·exact List.mem_cons_of_mem _ h1
   ·rcases List.mem_cons.1 hx with rfl | hx
    ·exact h2
    ·exact h3 x hx
  ·rename_i h
   obtain ⟨h1, h2, h3⟩ := ih b
   refine ⟨?_, h2, fun x hx => ?_⟩
   ·rcases h1 with h1 | h1
    ·exact .inl h1
    ·exact .inr (List.mem_cons_of_mem _ h1)
   ·rcases List.mem_cons.1 hx with rfl | hx
    ·omega
    ·exact h3 x hx
theorem best_14 {t : List Hd} (h : 1 ≤ t.length) : best t ∈ t ∧ ∀ x ∈ t, x.n ≤ (best t).n := by
 cases t with
 | nil => simp at h
 | cons b r =>
  obtain ⟨h1, h2, h3⟩ := bestF_14 r b
  refine ⟨?_, fun x hx => ?_⟩
  ·show bestF b r ∈ b :: r
   rcases h1 with h1 | h1
   ·rw [h1]; exact List.mem_cons_self ..
   ·exact List.mem_cons_of_mem _ h1
  ·show x.n ≤ (bestF b r).n
   rcases List.mem_cons.1 hx with rfl | hx
   ·exact h2
   ·exact h3 x hx
theorem open_known (t : List Hd) (xs : List Int) : ∀ (g a : Nat) (st : Sto) (n : Nat), known t st.h = true → known t (openF g t xs a st n).1.h = true := by
 intro g
 induction g with
 | zero => intro a st n h; exact h
 | succ g ih =>
  intro a st n h
  rw [openF]
  split
  ·split
   ·rename_i hc
    obtain ⟨_, _, c, _, _, _, hs⟩ := commit1_good hc.2
    exact ih _ _ _ (by rw [hs]; exact known_signed c)
   ·exact h
  ·exact h
theorem new_known (t : List Hd) : known t new12.h = true := by
 unfold known
 have : eqH new12.h (headOf []) = true := (eqH_iff _ _).2 rfl
 rw [this]
 rfl
theorem made_known {t : List Hd} {st : Sto} (h : Made t st) : known t st.h = true := by
 have h1 := open_known t st.b st.b.length 0 new12 0 (new_known t)
 rw [(h.2 st.b.length (Nat.le_refl _)).2.1] at h1
 exact h1
structure D14 (all : List ByteArray) (t : List Hd) (m : Mr) : Prop where
 lo : 0 ≤ m.id
 hi : m.id < 4
 st : Dsq all t 0 m.st
 tab : Tab all t
 a1 : 1 ≤ all.length
 a9 : all.length ≤ 9
 az : ∀ s ∈ all, s.size ≤ 3
 t1 : 1 ≤ t.length
 best : m.b = m.st.h ∨ m.b = He.best t
theorem D14.ok {all : List ByteArray} {t : List Hd} {m : Mr} (h : D14 all t m) : mirrorOk m t = true ∧ m.b.n ≤ (all.length : Int) ∧ (m.b.n = (all.length : Int) → m.st.l.length < all.length → m.b = headOf all) := by
 have hst := h.st
 have hbl := hst.bl
 have hk := logOk_yes hst.made.1.1
 have hln := hst.len
 have h9 := h.a9
 have hb := best_14 h.t1
 obtain ⟨n, hn, hbn⟩ := h.tab.all _ hb.1
 have hsn : m.st.h.n = (m.st.l.length : Int) := by rw [hk.2]; exact headN hk.1
 have hbs : (He.best t).n = (n : Int) := by
  rw [hbn, headN (by rw [List.length_take]; omega), List.length_take]
  omega
 have hkn := made_known hst.made
 refine ⟨ok_join ⟨h.lo, by have := h.hi; omega⟩ (good_ok hst.made.1 (by omega) ⟨hst.lo, hst.hi⟩) ?_ ?_ hkn, ?_, fun e1 e2 => ?_⟩
 ·rcases h.best with e | e
  ·rw [e, hk.2]; exact okHead14 hk.1
  ·rw [e, hbn]; exact okHead14 (by rw [List.length_take]; omega)
 ·rcases h.best with e | e
  ·rw [e]; exact hkn
  ·rw [e]; exact known_signed (signed_in14 hb.1)
 ·rcases h.best with e | e
  ·rw [e]; omega
  ·rw [e]; omega
 ·rcases h.best with e | e
  ·rw [e] at e1; omega
  ·rw [e] at e1 ⊢
   have : n = all.length := by omega
   rw [hbn, this, List.take_length]
theorem answer_ok {m : Mr} {t : List Hd} {w : Ms} (hm : mirrorOk m t = true) (hw : msgOk w = true) (ht : w.t = m.id) (hk : w.k = 2) : (∀ q ∈ answer m w, msgOk q = true ∧ q.f = m.id) ∧ (answer m w).length ≤ 1 := by
 obtain ⟨a, b, c, d, e, f⟩ := msg_parts hw
 unfold answer
 split
 ·rename_i h1
  refine ⟨fun q hq => ?_, by simp⟩
  obtain rfl := List.mem_singleton.1 hq
  refine ⟨?_, rfl⟩
  have hkd : w.n < w.h.n := by
   unfold Mg.kindOk at f
   rw [if_neg (by omega), if_pos hk] at f
   simp only [Bool.and_eq_true, decide_eq_true_eq] at f
   exact f.1
  have hok := okH_parts13 d
  unfold msgOk face Mg.kindOk
  simp only [d, Bool.and_eq_true, decide_eq_true_eq, Bool.not_eq_true', decide_eq_false_iff_not]
  have : ¬ m.id = w.f := fun h => c (by rw [ht, h])
  refine ⟨⟨⟨⟨⟨by omega, by omega⟩, this⟩, trivial⟩, by omega⟩, ?_⟩
  rw [if_neg (by omega), if_neg (by omega), if_pos (by first | rfl | trivial)]
  simp only [Bool.and_eq_true, decide_eq_true_eq, List.length_drop, List.length_take]
  omega
 ·exact ⟨fun q hq => (by cases hq), by simp⟩
theorem heard14 {m : Mr} {t : List Hd} {w : Ms} (hb : Byt m.st.b) : (mirrorOk m t = false → hear m t w = (m, [])) ∧
  (mirrorOk m t = true → (∀ q ∈ (hear m t w).2, msgOk q = true ∧ q.f = m.id) ∧ (hear m t w).2.length ≤ 1 ∧ mirrorOk (hear m t w).1 t = true ∧ m.st.l <+: (hear m t w).1.st.l ∧ m.b.n ≤ (hear m t w).1.b.n) := by
 refine ⟨fun h => ?_, fun h => ?_⟩
 ·unfold hear
  rw [if_neg]
  rw [h]
  simp
 ·unfold hear
  split
  ·rename_i hc
   unfold hear1
   obtain ⟨_, _, _, d, _, f⟩ := msg_parts hc.2.1
   split
   ·split
    ·rename_i hs
     have hok := better_ok h d hs
     have ha := ask_ok (to := w.f) hok
     obtain ⟨e1, e2, e3⟩ := better_id m w.h
     refine ⟨fun q hq => ⟨(ha.1 q hq).1, by rw [(ha.1 q hq).2.1, e1]⟩, ha.2, hok, ?_, e3⟩
     rw [e2]
     exact List.prefix_refl _
    ·exact ⟨fun q hq => (by cases hq), by simp, h, List.prefix_refl _, Int.le_refl _⟩
   ·split
    ·rename_i hk
     have ha := answer_ok h hc.2.1 hc.2.2 hk
     exact ⟨ha.1, ha.2, h, List.prefix_refl _, Int.le_refl _⟩
    ·have ha := takes_ok (w := w) hb h
     exact ⟨fun q hq => (by cases hq), by simp, ha.1, ha.2.1, ha.2.2⟩
  ·exact ⟨fun q hq => (by cases hq), by simp, h, List.prefix_refl _, Int.le_refl _⟩
end Go.Proofs.YtchonoonclllbaaGreatDoor.Mi
namespace Go.Proofs.YtchonoonclllbaaGreatDoor.Mi
open Go.RowKit Mem Laws Bytes Sha Tr He Lg Sr Mg
theorem takes_small {m : Mr} {t : List Hd} {w : Ms} (hb : Byt m.st.b) : (∀ s ∈ (takes m t w).st.l, s ∈ m.st.l ∨ s ∈ w.x) ∧ (takes m t w).st.l.length ≤ m.st.l.length + w.x.length ∧ Byt (takes m t w).st.b ∧ (takes m t w).st.b.length ≤ max m.st.b.length 60000 ∧ ((takes m t w).b = m.b ∨ (takes m t w).b = w.h) := by
 unfold takes
 split
 ·rename_i hc
  obtain ⟨_, _, _, _, _, _, g7⟩ := commit1_good hc.2.2
  have e2 : ∀ (k : Mr) (h : Hd), (better k h).st = k.st := fun k h => (better_id k h).2.1
  rw [e2]
  simp only
  rw [g7]
  refine ⟨fun s hs => ?_, by simp, hb.app (put_byt _ _), ?_, ?_⟩
  ·exact List.mem_append.1 hs
  ·simp only [List.length_append]; omega
  ·unfold better
   split
   ·exact .inr rfl
   ·exact .inl rfl
 ·exact ⟨fun s hs => .inl hs, by omega, hb, by omega, .inl rfl⟩
theorem hear_small {m : Mr} {t : List Hd} {w : Ms} (hb : Byt m.st.b) : (∀ s ∈ (hear m t w).1.st.l, s ∈ m.st.l ∨ s ∈ w.x) ∧ (hear m t w).1.st.l.length ≤ m.st.l.length + w.x.length ∧ Byt (hear m t w).1.st.b ∧ (hear m t w).1.st.b.length ≤ max m.st.b.length 60000 ∧ ((hear m t w).1.b = m.b ∨ (hear m t w).1.b = w.h) := by
 have triv : (∀ s ∈ m.st.l, s ∈ m.st.l ∨ s ∈ w.x) ∧ m.st.l.length ≤ m.st.l.length + w.x.length ∧ Byt m.st.b ∧ m.st.b.length ≤ max m.st.b.length 60000 ∧ (m.b = m.b ∨ m.b = w.h) := ⟨fun s hs => .inl hs, by omega, hb, by omega, .inl rfl⟩
 unfold hear
 split
 ·unfold hear1
  split
  ·split
   ·simp only
    rw [(better_id m w.h).2.1]
    refine ⟨triv.1, triv.2.1, hb, triv.2.2.2.1, ?_⟩
    unfold better
    split
    ·exact .inr rfl
    ·exact .inl rfl
   ·exact triv
  ·split
   ·exact triv
   ·exact takes_small hb
 ·exact triv
end Go.Proofs.YtchonoonclllbaaGreatDoor.Mi
namespace Go.Proofs.YtchonoonclllbaaGreatDoor.Sr
open Go.RowKit Mem Laws Bytes Sha Tr Draw He Lg
theorem none5 (w : World) (lo hi : Nat) (e : TypeId) : Own w lo hi e (.slice none 0 0) [] := ⟨⟨rfl, Or.inl ⟨rfl, rfl⟩⟩, fun g hg => by simp [Value.ownBlock] at hg⟩
set_option maxRecDepth 1000000 in
theorem draw12t (W0 w : World) (g : Nat) (vb : Value) (xs : List Int) (hs : Sl W0 vb (bs xs)) (hby : Byt xs) (hx : xs.length ≤ 140737488355328) (hB : Below W0.heap.size W0 w) (hg : W0.heap.size ≤ g) (hcu : Cur w g vb xs.length) :
  Calls Tryz.prog 99 #[.pointer (some ⟨g, 0, none⟩)] w fun e w' => ∃ (st : Sto) (all : List ByteArray) (t : List Hd) (v u va vt : Value), e = .returned (.tuple #[.agg #[v, .int .i64 st.h.n, .string st.h.r, u, .int .i64 st.s], va, vt]) ∧ Dsq all t 0 st ∧ Tab all t ∧ 1 ≤ all.length ∧ all.length ≤ 9 ∧ (∀ s ∈ all, s.size ≤ 3) ∧ 1 ≤ t.length ∧ t.length ≤ 10 ∧ (∀ x ∈ t, x.r.size ≤ 32) ∧ Own w' w.heap.size w'.heap.size 9 v (ss st.l) ∧ Own w' w.heap.size w'.heap.size 5 u (bs st.b) ∧ Own w' w.heap.size w'.heap.size 9 va (ss all) ∧ Oh w' w.heap.size w'.heap.size vt t ∧ Drawn W0 w g vb xs w' := by
 have HSW : Hid (Sl W0 vb (bs xs)) := hs
 have hgw := hcu.lt
 clear hs
 have B0 : Hid (Apart g (g + 1) w w) := Apart.refl _ _ _
 have cu0 : Hid (Cur w (g) vb xs.length) := hcu
 have bw0 : Hid (Below W0.heap.size W0 w) := hB
 obtain ⟨i9, hi9, hz9a, hz9b, hz9c⟩ := info_parts info9t
 obtain ⟨W1, HW1, b1, y1, hS1, r_res1⟩ := Ke.l1 w #[.slice none 0 0, .int .i64 0, .string ⟨#[]⟩, .slice none 0 0, .int .i64 0] 30
 have z1 := b1.size
 have B1 : Hid (Apart g (g + 1) w W1) := B0.out.grow b1
 have cu1 : Hid (Cur W1 (g) vb xs.length) := cu0.out.keep b1
 have bw1 := Ke.b bw0 b1
 clear cu0 bw0
 go_enter Tryz.func99, Tryz.ntmps99
 go_wp2_with fail
 rw [HW1.out]
 refine (Tr.list_any W0 W1 g _ xs HSW.out hby hx bw1.out hg cu1.out).mono ?_
 rintro e W2 ⟨v_l, l, rfl, hll, hls, o_l2, d2⟩
 obtain ⟨ao_l, L_l, cap_l, rfl, hL_l, hM_l⟩ := o_l2.form
 have o_l2 : Hid (Own W2 W1.heap.size W2.heap.size 9 (.slice ao_l L_l cap_l) (ss l)) := o_l2
 clear hL_l hM_l
 have z2 : W1.heap.size ≤ W2.heap.size := d2.apart.size
 have B2 : Hid (Apart g (g + 1) w W2) := B1.out.trans d2.apart
 have cu2 : Hid (Cur W2 (g) vb xs.length) := d2.cur
 have bw2 : Hid (Below W0.heap.size W0 W2) := d2.below
 have r_res2 : Hid (W2.heap[w.heap.size]? = some (.cells #[.slice none 0 0, .int .i64 0, .string ⟨#[]⟩, .slice none 0 0, .int .i64 0] 30 (0, 0))) := drawn_row r_res1.out d2 (by omega)
 clear r_res1
 clear cu1 bw1 d2
 obtain ⟨W3, HW3, b3, hS3, o_e3⟩ : ∃ X, Hid ((W2.alloc (.cells #[.string ⟨#[113]⟩] 9)) = X) ∧ Below W2.heap.size W2 X ∧ Hid (X.heap.size = W2.heap.size + 1) ∧ Hid (Own X W2.heap.size X.heap.size 9 (.slice (some ⟨W2.heap.size, 0, none⟩) 1 1) (ss [⟨#[113]⟩])) := ⟨_, rfl, (Below.refl _ _).alloc (Nat.le_refl _) _, (by show _ = _; simp), lit1S W2 W2.heap.size ⟨#[113]⟩ (Nat.le_refl _)⟩
 have z3 := b3.size
 have B3 : Hid (Apart g (g + 1) w W3) := B2.out.grow b3
 have r_res3 := Ke.r r_res2 b3
 have o_l3 := Ke.o o_l2 b3
 clear r_res2 o_l2
 have cu3 : Hid (Cur W3 (g) vb xs.length) := cu2.out.keep b3
 have bw3 := Ke.b bw2 b3
 clear cu2 bw2
 obtain ⟨all, hall⟩ : ∃ all : List ByteArray, l ++ [⟨#[113]⟩] = all := ⟨_, rfl⟩
 have hA1 : 1 ≤ all.length ∧ all.length ≤ 9 := by rw [← hall]; simp; omega
 have hAz : ∀ s ∈ all, s.size ≤ 3 := by
  rw [← hall]
  intro s hs9
  rcases List.mem_append.1 hs9 with h9 | h9
  ·exact hls s h9
  ·rw [List.mem_singleton.1 h9]; show (1 : Nat) ≤ 3; omega
 have HALL : Hid (l ++ [⟨#[113]⟩] = all) := hall
 clear hall
 have c6_4 : (ss l).length + (ss [⟨#[113]⟩]).length ≤ maxLen := by rw [ss_len, ss_len]; unfold maxLen; (try simp only [List.length_nil]); (try simp only [List.length_cons, List.length_nil]); omega
 have c7_4 : ((ss l).length + (ss [⟨#[113]⟩]).length) * 16 ≤ 140737488355328 := by rw [ss_len, ss_len]; (try simp only [List.length_nil]); (try simp only [List.length_cons, List.length_nil]); omega
 have sE4 : Hid (Sl W3 _ (ss [⟨#[113]⟩])) := o_e3.out.sl
 go_wp2_with (at_builtin; (try rw [HW3.out]); go_must (refine wpl_app _ rfl (.tmp 12) (.tmp 13) 24 rfl 9 i9 (.string ⟨#[]⟩) 16 Tryz.underlying24 hi9 hz9a hz9b hz9c rfl (W1.heap.size) _ (ss l) rfl (Own.mono o_l3.out (Nat.le_refl _) (by omega)) _ rfl (ss [⟨#[113]⟩]) sE4.out (ss_one [⟨#[113]⟩]) c6_4 c7_4 (by omega) ?_))
 intro v_all W4 o_all4 _ g4
 have o_all4 : Own W4 (W1.heap.size) W4.heap.size 9 v_all (ss all) := by show Own _ _ _ _ _ _; rw [← HALL.out, ss_app]; exact o_all4
 have o_all4h : Hid (Own W4 (W1.heap.size) W4.heap.size 9 v_all (ss all)) := o_all4
 have cu4 : Hid (Cur W4 (g) vb xs.length) := cu3.out.groOwn o_l3.out g4 (by decide)
 have bw4 : Hid (Below W0.heap.size W0 W4) := belowGro bw3.out g4 bw3.out.size (Own.low o_l3.out (by omega))
 clear cu3 bw3
 clear o_all4
 have o_all4 := o_all4h
 clear o_all4h
 obtain ⟨ao_all, L_all, cap_all, rfl, _, _⟩ := Mem.Own.form o_all4.out
 have z4 := g4.size
 have B4 : Hid (Apart g (g + 1) w W4) := Apart.gro B3.out g4 (Own.low o_l3.out (by have := B3.out.size; omega))
 have r_res4 := Ke.n r_res3 o_l3 g4
 clear r_res3 o_l3 o_e3
 clear g4 sE4 c6_4 c7_4
 obtain rfl : L_all = all.length := by obtain ⟨a9, L9, c9, he, h1, h2⟩ := Mem.Own.form o_all4.out; injection he with _ he2 _; rw [ss_len] at h1 h2; omega
 obtain ⟨ga, rfl, hga1, hga2, curA, hcurA, _⟩ := Own.blockG o_all4.out (by omega)
 clear hcurA
 have hcap : all.length ≤ cap_all := by obtain ⟨a9, c9, he, h1, _⟩ := o_all4.out.sl; injection he with _ he2 he3; rw [ss_len] at h1; omega
 go_wp2_with fail
 refine (table_tab W0 W4 g _ xs (W1.heap.size) (W4.heap.size) _ all (by omega) hAz o_all4.out (by omega) (by omega) HSW.out hby hx bw4.out hg cu4.out).mono ?_
 rintro e W5 ⟨v_t, t, rfl, ht1, ht2, htz, htab, o_t5, d5⟩
 have z5 : W4.heap.size ≤ W5.heap.size := d5.apart.size
 have B5 : Hid (Apart g (g + 1) w W5) := B4.out.trans d5.apart
 have cu5 : Hid (Cur W5 (g) vb xs.length) := d5.cur
 have bw5 : Hid (Below W0.heap.size W0 W5) := d5.below
 have r_res5 : Hid (W5.heap[w.heap.size]? = some (.cells #[.slice none 0 0, .int .i64 0, .string ⟨#[]⟩, .slice none 0 0, .int .i64 0] 30 (0, 0))) := drawn_row r_res4.out d5 (by omega)
 have o_all5 : Hid (Own W5 (W1.heap.size) (W4.heap.size) 9 (.slice (some ⟨ga, 0, none⟩) all.length cap_all) (ss all)) := Own.drawn o_all4.out d5 (by omega) (by omega)
 clear r_res4 o_all4
 clear cu4 bw4 d5
 have f_t5 : Hid (Oht W5 W4.heap.size W5.heap.size v_t t) := ⟨o_t5, Nat.le_refl _⟩
 clear o_t5
 have HTAB : Hid (Tab all t) := htab
 clear htab
 obtain ⟨ao_t, L_t, cap_t, rfl, htc⟩ : ∃ ao L cap, v_t = .slice ao L cap ∧ True := by obtain ⟨ao, cap, rfl, _⟩ := f_t5.out.1.sh.form; exact ⟨_, _, _, rfl, trivial⟩
 have q0 : ∀ W, _ := fun W => storenew_spec W
 obtain ⟨M, hM⟩ : ∃ M, headOf [] = M := ⟨_, rfl⟩
 simp only [hM] at q0
 have HM : Hid (headOf [] = M) := hM
 clear hM
 go_wp2_with fail
 refine (q0 W5).mono ?_
 rintro e W6 ⟨rfl, b6⟩
 have z6 := b6.size
 have B6 : Hid (Apart g (g + 1) w W6) := B5.out.grow b6
 have r_res6 := Ke.r r_res5 b6
 have o_all6 := Ke.o o_all5 b6
 clear r_res5 o_all5
 have f_t6 : Hid (Oht W6 W4.heap.size W5.heap.size (.slice ao_t L_t cap_t) t) := Oht.later f_t5.out b6
 clear f_t5
 have cu6 : Hid (Cur W6 (g) vb xs.length) := cu5.out.keep b6
 have bw6 := Ke.b bw5 b6
 clear cu5 bw5
 obtain ⟨W7, HW7, b7, y7, hS7, r_s7⟩ := Ke.l1 W6 #[.slice none 0 0, .int .i64 M.n, .string M.r, .slice none 0 0, .int .i64 0] 30
 have z7 := b7.size
 have B7 : Hid (Apart g (g + 1) w W7) := B6.out.grow b7
 have r_res7 := Ke.r r_res6 b7
 have o_all7 := Ke.o o_all6 b7
 clear r_res6 o_all6
 have f_t7 : Hid (Oht W7 W4.heap.size W5.heap.size (.slice ao_t L_t cap_t) t) := Oht.later f_t6.out b7
 clear f_t6
 have cu7 : Hid (Cur W7 (g) vb xs.length) := cu6.out.keep b7
 have bw7 := Ke.b bw6 b7
 clear cu6 bw6
 go_wp2_with fail
 rw [HW7.out]
 refine (below_any W0 W7 g _ xs 4 (by omega) (by omega) HSW.out hby hx bw7.out hg cu7.out).mono ?_
 rintro e W8 ⟨y, rfl, hy0, hy4, d8⟩
 have z8 : W7.heap.size ≤ W8.heap.size := d8.apart.size
 have B8 : Hid (Apart g (g + 1) w W8) := B7.out.trans d8.apart
 have cu8 : Hid (Cur W8 (g) vb xs.length) := d8.cur
 have bw8 : Hid (Below W0.heap.size W0 W8) := d8.below
 have r_res8 : Hid (W8.heap[w.heap.size]? = some (.cells #[.slice none 0 0, .int .i64 0, .string ⟨#[]⟩, .slice none 0 0, .int .i64 0] 30 (0, 0))) := drawn_row r_res7.out d8 (by omega)
 have r_s8 : Hid (W8.heap[W6.heap.size]? = some (.cells #[.slice none 0 0, .int .i64 M.n, .string M.r, .slice none 0 0, .int .i64 0] 30 (0, 0))) := drawn_row r_s7.out d8 (by omega)
 have o_all8 : Hid (Own W8 (W1.heap.size) (W4.heap.size) 9 (.slice (some ⟨ga, 0, none⟩) all.length cap_all) (ss all)) := Own.drawn o_all7.out d8 (by omega) (by omega)
 have f_t8 : Hid (Oht W8 W4.heap.size W5.heap.size (.slice ao_t L_t cap_t) t) := Oht.drawn f_t7.out d8 (by omega)
 clear r_res7 r_s7 o_all7
 clear cu7 bw7 d8 f_t7
 obtain ⟨i, rfl⟩ : ∃ i : Nat, y = (i : Int) := ⟨y.toNat, by omega⟩
 have hi3 : i ≤ 3 := by omega
 clear hy0 hy4
 go_wp2_with fail
 go_loopw [8] (fun iv wr => ∃ (j : Nat) (st : Sto) (ao : Option Addr) (L cap : Nat) (ao' : Option Addr) (L' cap' : Nat), j ≤ 3 ∧ iv = .int .i64 (j : Int) ∧ Hid (Dsq all t j st) ∧ Hid (wr.heap[W6.heap.size]? = some (.cells #[.slice ao L cap, .int .i64 st.h.n, .string st.h.r, .slice ao' L' cap', .int .i64 st.s] 30 (0, 0))) ∧ Hid (wr.heap[w.heap.size]? = some (.cells #[.slice none 0 0, .int .i64 0, .string ⟨#[]⟩, .slice none 0 0, .int .i64 0] 30 (0, 0))) ∧ Hid (Own wr W8.heap.size wr.heap.size 9 (.slice ao L cap) (ss st.l)) ∧ Hid (Own wr W8.heap.size wr.heap.size 5 (.slice ao' L' cap') (bs st.b)) ∧ Hid (Own wr (W1.heap.size) (W4.heap.size) 9 (.slice (some ⟨ga, 0, none⟩) all.length cap_all) (ss all)) ∧ Hid (Oht wr W4.heap.size W5.heap.size (.slice ao_t L_t cap_t) t) ∧ Hid (Apart g (g + 1) w wr) ∧ Hid (Cur wr g vb xs.length) ∧ Hid (Below W0.heap.size W0 wr) ∧ W8.heap.size ≤ wr.heap.size) (fun iv _ => (intOf iv).toNat)
 case atStart =>
  refine ⟨i, new12, none, 0, 0, none, 0, 0, hi3, rfl, Dsq.new _ _ hi3, ?_, r_res8, none5 _ _ _ _, none5 _ _ _ _, o_all8, f_t8, B8, cu8, bw8, Nat.le_refl _⟩
  show _ = _
  rw [r_s8.out, ← HM.out]
  rfl
 case round =>
  obtain ⟨j, st, ao_v, L_v, cap_v, ao_p, L_p, cap_p, hj3, rfl, HD, r_s9, r_res9, o_v9, o_p9, o_all9, f_t9, B9, cu9, bw9, z9⟩ := hrel
  obtain ⟨W9, hW9⟩ : ∃ X, X = wr := ⟨_, rfl⟩
  subst hW9
  clear r_s8 r_res8 o_all8 f_t8 cu8 bw8
  obtain rfl : L_v = st.l.length := by obtain ⟨a9, L9, c9, he, h1, h2⟩ := Mem.Own.form o_v9.out; injection he with _ he2 _; rw [ss_len] at h1 h2; omega
  obtain rfl : L_p = st.b.length := by obtain ⟨a9, L9, c9, he, h1, h2⟩ := Mem.Own.form o_p9.out; injection he with _ he2 _; rw [bs_len] at h1 h2; omega
  have c_s9 := Ke.c r_s9
  have hln := HD.out.len
  have hlb := HD.out.bl
  have hhr := HD.out.head
  by_cases hj0 : j = 0
  ·subst hj0
   go_wp2_with (first | (refine wpList_load_row rfl 30 _ rfl (W6.heap.size) rfl 30 (sc (.slice ao_v st.l.length cap_v) st.h (.slice ao_p st.b.length cap_p) st.s) (0, 0) _ r_s9.out Tryz.underlying30 rfl (sizeS _ _ _ _) ?_) | (refine wpl_partG rfl 30 _ _ rfl (w.heap.size) 0 (sc (.slice ao_v st.l.length cap_v) st.h (.slice ao_p st.b.length cap_p) st.s) rfl rfl [.slice none 0 0, .int .i64 0, .string ⟨#[]⟩, .slice none 0 0, .int .i64 0] 30 r_res9.out (Nat.le_of_ble_eq_true rfl) (sizeS _ _ _ _) (oneS _ _ rfl rfl) [.slice ao_v st.l.length cap_v, .int .i64 st.h.n, .string st.h.r, .slice ao_p st.b.length cap_p, .int .i64 st.s] rfl ?_))
   intro W10 r_res10 g10
   have f_t10 := Ke.h (Oht.gro f_t9.out g10 (fun k9 h9 => by injection h9 with h9; omega))
   have cu10 := Ke.h (cu9.out.gro g10 (fun h9 => by injection h9 with h9; omega))
   have bw10 := Ke.i bw9 g10
   clear cu9 bw9
   have r_res10 : Hid (W10.heap[w.heap.size]? = some (.cells #[.slice ao_v st.l.length cap_v, .int .i64 st.h.n, .string st.h.r, .slice ao_p st.b.length cap_p, .int .i64 st.s] 30 (0, 0))) := r_res10
   have z10 := g10.size
   have B10 : Hid (Apart g (g + 1) w W10) := Apart.gro B9.out g10 (fun k9 h9 => by injection h9 with h9; have := B9.out.size; omega)
   have r_s10 := Ke.s r_s9 g10
   have o_v10 := Ke.t o_v9 r_res9 g10
   have o_p10 := Ke.t o_p9 r_res9 g10
   have o_all10 := Ke.t o_all9 r_res9 g10
   have c_s10 := Ke.c r_s10
   have c_res10 := Ke.c r_res10
   clear r_s9 c_s9 o_v9 o_p9 o_all9
   clear r_res9
   clear f_t9
   go_wp2
   refine bodyPost_ret (res_r2 rfl _ _ (w.heap.size) 30 (sc (.slice ao_v st.l.length cap_v) st.h (.slice ao_p st.b.length cap_p) st.s) (0, 0) _ rfl r_res10.out Tryz.underlying30 rfl (sizeS _ _ _ _)) rfl ⟨st, all, t, .slice ao_v st.l.length cap_v, .slice ao_p st.b.length cap_p, .slice (some ⟨ga, 0, none⟩) all.length cap_all, .slice ao_t L_t cap_t, rfl, HD.out, HTAB.out, hA1.1, hA1.2, hAz, ht1, by omega, htz, Own.mono o_v10.out (by omega) (by omega), Own.mono o_p10.out (by omega) (by omega), Own.mono o_all10.out (by omega) (by omega), Oht.wide f_t10.out (by omega), ⟨cu10.out, B10.out, bw10.out⟩⟩
  ·obtain ⟨i2, rfl⟩ : ∃ i2, j = i2 + 1 := ⟨j - 1, by omega⟩
   have d0 : (0 : Int) < ((i2 + 1 : Nat) : Int) := by omega
   have wj : IntKind.i64.wrap (((i2 + 1 : Nat) : Int) - 1) = (i2 : Int) := by rw [IntKind.wrap_i64]; omega
   by_cases hlt : st.l.length < all.length
   ·have w1 : IntKind.i64.wrap ((st.l.length : Int) + 1) = (st.l.length : Int) + 1 := by rw [IntKind.wrap_i64]; omega
    have w2 : IntKind.i64.wrap ((all.length : Int) - (st.l.length : Int)) = (all.length : Int) - (st.l.length : Int) := by rw [IntKind.wrap_i64]; omega
    have hlt2 : (st.l.length : Int) < (all.length : Int) := by omega
    go_wp2_with fail
    refine (below_any W0 W9 g _ xs ((all.length : Int) - (st.l.length : Int)) (by omega) (by omega) HSW.out hby hx bw9.out hg cu9.out).mono ?_
    rintro e W10 ⟨y, rfl, hy0, hy1, d10⟩
    have z10 : W9.heap.size ≤ W10.heap.size := d10.apart.size
    have B10 : Hid (Apart g (g + 1) w W10) := B9.out.trans d10.apart
    have cu10 : Hid (Cur W10 (g) vb xs.length) := d10.cur
    have bw10 : Hid (Below W0.heap.size W0 W10) := d10.below
    have r_s10 : Hid (W10.heap[W6.heap.size]? = some (.cells #[.slice ao_v st.l.length cap_v, .int .i64 st.h.n, .string st.h.r, .slice ao_p st.b.length cap_p, .int .i64 st.s] 30 (0, 0))) := drawn_row r_s9.out d10 (by omega)
    have r_res10 : Hid (W10.heap[w.heap.size]? = some (.cells #[.slice none 0 0, .int .i64 0, .string ⟨#[]⟩, .slice none 0 0, .int .i64 0] 30 (0, 0))) := drawn_row r_res9.out d10 (by omega)
    have o_v10 : Hid (Own W10 (W8.heap.size) (W9.heap.size) 9 (.slice ao_v st.l.length cap_v) (ss st.l)) := Own.drawn o_v9.out d10 (by omega) (by omega)
    have o_p10 : Hid (Own W10 (W8.heap.size) (W9.heap.size) 5 (.slice ao_p st.b.length cap_p) (bs st.b)) := Own.drawn o_p9.out d10 (by omega) (by omega)
    have o_all10 : Hid (Own W10 (W1.heap.size) (W4.heap.size) 9 (.slice (some ⟨ga, 0, none⟩) all.length cap_all) (ss all)) := Own.drawn o_all9.out d10 (by omega) (by omega)
    have f_t10 : Hid (Oht W10 W4.heap.size W5.heap.size (.slice ao_t L_t cap_t) t) := Oht.drawn f_t9.out d10 (by omega)
    have c_s10 := Ke.c r_s10
    have c_res10 := Ke.c r_res10
    clear r_s9 c_s9 r_res9 o_v9 o_p9 o_all9
    clear cu9 bw9 d10 f_t9
    obtain ⟨m, hm1, hm2, hm3⟩ : ∃ m : Nat, (st.l.length : Int) + 1 + y = (m : Int) ∧ st.l.length < m ∧ m ≤ all.length := ⟨((st.l.length : Int) + 1 + y).toNat, by omega, by omega, by omega⟩
    have w3 : IntKind.i64.wrap ((st.l.length : Int) + 1 + y) = (m : Int) := by rw [hm1, IntKind.wrap_i64]; omega
    have b1 : (m : Int) ≤ (cap_all : Int) := by omega
    have b2 : (st.l.length : Int) ≤ (m : Int) := by omega
    have b3 : (0 : Int) ≤ (m : Int) := by omega
    have b4 : ¬ cap_all = st.l.length := by omega
    have HM1 : Hid ((st.l.length : Int) + 1 + y = (m : Int)) := hm1
    clear hm1
    obtain ⟨x, hxx⟩ : ∃ x, (all.drop st.l.length).take (m - st.l.length) = x := ⟨_, rfl⟩
    have hxl : st.l.length + x.length ≤ all.length := by rw [← hxx, List.length_take, List.length_drop]; omega
    have hxz : ∀ s ∈ x, s.size ≤ 3 := fun s h9 => hAz s (List.mem_of_mem_drop (List.mem_of_mem_take (by rw [hxx]; exact h9)))
    have hfz : ∀ s ∈ all.take m, s.size ≤ 3 := fun s h9 => hAz s (List.mem_of_mem_take h9)
    obtain ⟨M2, hM2⟩ : ∃ M, headOf (all.take m) = M := ⟨_, rfl⟩
    have hM3 := headOf_size (all.take m)
    rw [hM2] at hM3
    have q1 : ∀ W v1, Sl W v1 (ss (all.take m)) → _ := fun W v1 h1 => headOf_spec W v1 (all.take m) h1 (by rw [List.length_take]; omega) (fun s h9 => Nat.le_trans (hfz s h9) (by omega))
    simp only [hM2] at q1
    have htx : Puts.tot x ≤ 100 := by
     have h9 : ∀ l : List ByteArray, (∀ s ∈ l, s.size ≤ 3) → Puts.tot l ≤ 3 * l.length := by
      intro l
      induction l with
      | nil => intro _; exact Nat.le_refl _
      | cons a r ih =>
       intro hl9
       have h1 := hl9 a (List.mem_cons_self ..)
       have h2 := ih (fun s hs => hl9 s (List.mem_cons_of_mem _ hs))
       simp only [Puts.tot, List.length_cons]
       omega
     have := h9 x hxz
     omega
    have q2 : ∀ W v1 v2 v3 v4, Sl W v1 (ss st.l) → Sl W v2 (bs st.b) → Sh W v3 t → Sl W v4 (ss x) → _ := fun W v1 v2 v3 v4 h1 h2 h3 h4 => commit1_spec W v1 v2 v3 v4 st t M2 x h1 h2 h3 h4 (by omega) (by omega) (by omega) (by omega) (fun s h9 => Nat.le_trans (HD.out.sz s h9) (by omega)) (fun s h9 => Nat.le_trans (hxz s h9) (by omega)) (by omega) (by omega)
    have hDS := Dsq.step (h := M2) (x := x) HD.out hj3 hxl hA1.2 hxz hM3 hxx
    obtain ⟨C, hC⟩ : ∃ C, commit1 st t M2 x = C := ⟨_, rfl⟩
    simp only [hC] at q2 hDS
    obtain ⟨st2, code⟩ := C
    simp only at q2 hDS
    have HDS : Hid (Dsq all t i2 st2) := hDS
    clear hC hDS hM2 hfz hxz
    have HF : Hid (∀ W, Sl W (.slice (some ⟨ga, 0, none⟩) all.length cap_all) (ss all) → Sl W (.slice (some ⟨ga, 0, none⟩) m cap_all) (ss (all.take m)) ∧ Sl W (.slice (some ⟨ga, st.l.length, none⟩) (m - st.l.length) (cap_all - st.l.length)) (ss x)) := by
     intro W h9
     refine ⟨?_, ?_⟩
     ·have h8 := Sl.front h9 m (by rw [ss_len]; omega)
      have e8 : ss (all.take m) = (ss all).take m := by { unfold ss; rw [List.map_take] }
      rw [e8]; exact h8
     ·have h8 := slMidT h9 st.l.length (m - st.l.length) (by omega) (by omega)
      rw [hxx, Nat.zero_add] at h8; exact h8
    clear hxx
    go_wp2_with fail
    refine wp_region_held_drew (S := fun w' => w'.cell? ⟨w.heap.size, 0, none⟩ = some (.slice none 0 0) ∧ w'.cell? ⟨w.heap.size, 1, none⟩ = some (.int .i64 0) ∧ w'.cell? ⟨w.heap.size, 2, none⟩ = some (.string ⟨#[]⟩) ∧ w'.cell? ⟨w.heap.size, 3, none⟩ = some (.slice none 0 0) ∧ w'.cell? ⟨w.heap.size, 4, none⟩ = some (.int .i64 0)) (by kernel_rfl) ⟨(c_res10 0), (c_res10 1), (c_res10 2), (c_res10 3), (c_res10 4)⟩ (fun hHeld => ?_)
    obtain ⟨W11, HW11, b11⟩ := Ke.v W10
    have HHW11 := HW11.out
    rw [HHW11] at hHeld ⊢
    clear HHW11
    have z11 := b11.size
    have B11 : Hid (Apart g (g + 1) w W11) := B10.out.grow b11
    have r_s11 := Ke.r r_s10 b11
    have r_res11 := Ke.r r_res10 b11
    have o_v11 := Ke.o o_v10 b11
    have o_p11 := Ke.o o_p10 b11
    have o_all11 := Ke.o o_all10 b11
    have c_s11 := Ke.c r_s11
    clear r_s10 c_s10 r_res10 c_res10 o_v10 o_p10 o_all10
    have f_t11 : Hid (Oht W11 W4.heap.size W5.heap.size (.slice ao_t L_t cap_t) t) := Oht.later f_t10.out b11
    clear f_t10
    have cu11 : Hid (Cur W11 (g) vb xs.length) := cu10.out.keep b11
    have bw11 := Ke.b bw10 b11
    clear cu10 bw10
    refine Ke.q 1 ?_; try simp only [Act.put, pq]
    refine Ke.q 2 ?_; try simp only [Act.put, pq]
    refine Ke.q 3 ?_; try simp only [Act.put, pq]
    refine Ke.q 4 ?_; try simp only [Act.put, pq]
    refine Ke.q 6 ?_; try simp only [Act.put, pq]
    refine Ke.q 7 ?_; try simp only [Act.put, pq]
    refine Ke.q 8 ?_; try simp only [Act.put, pq]
    refine Ke.q 9 ?_; try simp only [Act.put, pq]
    refine wpAnyH_ready (rs := [0, 5]) (by kernel_rfl) (by simp) ?_
    refine AllReadyH.cons rfl (fun K hK => ?_) (AllReadyH.cons rfl (fun K hK => ?_) AllReadyH.nil)
    ·go_simp
     refine hK.out _ _ ⟨hHeld.1, hHeld.2.1, hHeld.2.2.1, hHeld.2.2.2.1, hHeld.2.2.2.2⟩ (fun hHeld => ?_)
     clear hK K
     try simp only [Act.put, pq]
     refine Ke.z 5 rfl (fun K hK => ?_)
     go_simp
     refine (q1 W11 _ (HF.out _ o_all11.out.sl).1).mono ?_
     rintro e W12 ⟨rfl, b12⟩
     refine hK.out _ _ ⟨(keepR (W := W11) hHeld.1 b12), (keepR (W := W11) hHeld.2.1 b12), (keepR (W := W11) hHeld.2.2.1 b12), (keepR (W := W11) hHeld.2.2.2.1 b12), (keepR (W := W11) hHeld.2.2.2.2 b12)⟩ (fun hHeld => ?_)
     clear hK K
     try simp only [Act.put, pq]
     have z12 := b12.size
     have B12 : Hid (Apart g (g + 1) w W12) := B11.out.grow b12
     have r_s12 := Ke.r r_s11 b12
     have r_res12 := Ke.r r_res11 b12
     have o_v12 := Ke.o o_v11 b12
     have o_p12 := Ke.o o_p11 b12
     have o_all12 := Ke.o o_all11 b12
     have c_s12 := Ke.c r_s12
     clear r_s11 c_s11 r_res11 o_v11 o_p11 o_all11
     have f_t12 : Hid (Oht W12 W4.heap.size W5.heap.size (.slice ao_t L_t cap_t) t) := Oht.later f_t11.out b12
     clear f_t11
     have cu12 : Hid (Cur W12 (g) vb xs.length) := cu11.out.keep b12
     have bw12 := Ke.b bw11 b12
     clear cu11 bw11
     refine Ke.z 10 rfl (fun K hK => ?_)
     go_simp
     refine (q2 W12 _ _ _ _ o_v12.out.sl o_p12.out.sl f_t12.out.1.sh (HF.out _ o_all12.out.sl).2).mono ?_
     rintro e W13 ⟨v_n, v_y, rfl, o_n13, o_y13, b13⟩
     refine hK.out _ _ ⟨(keepR (W := W12) hHeld.1 b13), (keepR (W := W12) hHeld.2.1 b13), (keepR (W := W12) hHeld.2.2.1 b13), (keepR (W := W12) hHeld.2.2.2.1 b13), (keepR (W := W12) hHeld.2.2.2.2 b13)⟩ (fun hHeld => ?_)
     clear hK K
     try simp only [Act.put, pq]
     obtain ⟨lo_n, hi_n, lo_y, hi_y, d1_n, d2_n, d3_n, d4_n, d5_n, d6_n, d7_n, oo_n, oo_y⟩ := Sr.pairN o_n13 o_y13 b13.size
     clear o_n13 o_y13
     obtain ⟨ao_n, L_n, cap_n, rfl, _, _⟩ := oo_n.form
     obtain ⟨ao_y, L_y, cap_y, rfl, _, _⟩ := oo_y.form
     have o_n13 : Hid (Own W13 lo_n hi_n 9 (.slice ao_n L_n cap_n) (ss st2.l)) := oo_n
     have o_y13 : Hid (Own W13 lo_y hi_y 5 (.slice ao_y L_y cap_y) (bs st2.b)) := oo_y
     clear oo_n oo_y
     have z13 := b13.size
     have B13 : Hid (Apart g (g + 1) w W13) := B12.out.grow b13
     have r_s13 := Ke.r r_s12 b13
     have r_res13 := Ke.r r_res12 b13
     have o_all13 := Ke.o o_all12 b13
     clear r_s12 c_s12 r_res12 o_v12 o_p12 o_all12
     have f_t13 : Hid (Oht W13 W4.heap.size W5.heap.size (.slice ao_t L_t cap_t) t) := Oht.later f_t12.out b13
     clear f_t12
     have cu13 : Hid (Cur W13 (g) vb xs.length) := cu12.out.keep b13
     have bw13 := Ke.b bw12 b13
     clear cu12 bw12
     obtain rfl : L_y = st2.b.length := by obtain ⟨a9, L9, c9, he, h1, h2⟩ := Mem.Own.form o_y13.out; injection he with _ he2 _; rw [bs_len] at h1 h2; omega
     refine Ke.q 11 ?_; try simp only [Act.put, pq]
     refine Ke.q 12 ?_; try simp only [Act.put, pq]
     refine Ke.q 13 ?_; try simp only [Act.put, pq]
     refine Ke.z 14 rfl (fun K hK => ?_)
     rw [if_pos (by rfl)]
     refine wp_partG 30 _ _ rfl (W6.heap.size) 0 (sc (.slice ao_n L_n cap_n) st2.h (.slice ao_y st2.b.length cap_y) st2.s) rfl rfl [.slice ao_v st.l.length cap_v, .int .i64 st.h.n, .string st.h.r, .slice ao_p st.b.length cap_p, .int .i64 st.s] 30 r_s13.out (Nat.le_of_ble_eq_true rfl) (sizeS _ _ _ _) (oneS _ _ rfl rfl) [.slice ao_n L_n cap_n, .int .i64 st2.h.n, .string st2.h.r, .slice ao_y st2.b.length cap_y, .int .i64 st2.s] rfl ?_
     intro W14 r_s14 g14
     refine hK.out _ _ ⟨(cellGro hHeld.1 g14 (by show some (W6.heap.size) ≠ some (w.heap.size); intro h9; injection h9 with h9; omega)), (cellGro hHeld.2.1 g14 (by show some (W6.heap.size) ≠ some (w.heap.size); intro h9; injection h9 with h9; omega)), (cellGro hHeld.2.2.1 g14 (by show some (W6.heap.size) ≠ some (w.heap.size); intro h9; injection h9 with h9; omega)), (cellGro hHeld.2.2.2.1 g14 (by show some (W6.heap.size) ≠ some (w.heap.size); intro h9; injection h9 with h9; omega)), (cellGro hHeld.2.2.2.2 g14 (by show some (W6.heap.size) ≠ some (w.heap.size); intro h9; injection h9 with h9; omega))⟩ (fun hHeld => ?_)
     clear hK K
     try simp only [Act.put, pq]
     have f_t14 := Ke.h (Oht.gro f_t13.out g14 (fun k9 h9 => by injection h9 with h9; omega))
     have cu14 := Ke.h (cu13.out.gro g14 (fun h9 => by injection h9 with h9; omega))
     have bw14 := Ke.i bw13 g14
     clear cu13 bw13
     have r_s14 : Hid (W14.heap[W6.heap.size]? = some (.cells #[.slice ao_n L_n cap_n, .int .i64 st2.h.n, .string st2.h.r, .slice ao_y st2.b.length cap_y, .int .i64 st2.s] 30 (0, 0))) := r_s14
     have z14 := g14.size
     have B14 : Hid (Apart g (g + 1) w W14) := Apart.gro B13.out g14 (fun k9 h9 => by injection h9 with h9; have := B13.out.size; omega)
     have r_res14 := Ke.s r_res13 g14
     have o_all14 := Ke.t o_all13 r_s13 g14
     have o_n14 := Ke.t o_n13 r_s13 g14
     have o_y14 := Ke.t o_y13 r_s13 g14
     clear r_res13 o_all13 o_n13 o_y13
     clear r_s13
     clear f_t13
     clear g14
     refine wpAnyH_done (by kernel_rfl) ?_ _
     clear hHeld
     go_wp2_with fail
     refine (once10 W0 W14 g _ xs 3 (by omega) (by omega) HSW.out hby hx bw14.out hg cu14.out).mono ?_
     rintro e W15 ⟨bb, rfl, d15⟩
     have z15 : W14.heap.size ≤ W15.heap.size := d15.apart.size
     have B15 : Hid (Apart g (g + 1) w W15) := B14.out.trans d15.apart
     have cu15 : Hid (Cur W15 (g) vb xs.length) := d15.cur
     have bw15 : Hid (Below W0.heap.size W0 W15) := d15.below
     have r_s15 : Hid (W15.heap[W6.heap.size]? = some (.cells #[.slice ao_n L_n cap_n, .int .i64 st2.h.n, .string st2.h.r, .slice ao_y st2.b.length cap_y, .int .i64 st2.s] 30 (0, 0))) := drawn_row r_s14.out d15 (by omega)
     have r_res15 : Hid (W15.heap[w.heap.size]? = some (.cells #[.slice none 0 0, .int .i64 0, .string ⟨#[]⟩, .slice none 0 0, .int .i64 0] 30 (0, 0))) := drawn_row r_res14.out d15 (by omega)
     have o_all15 : Hid (Own W15 (W1.heap.size) (W4.heap.size) 9 (.slice (some ⟨ga, 0, none⟩) all.length cap_all) (ss all)) := Own.drawn o_all14.out d15 (by omega) (by omega)
     have o_n15 : Hid (Own W15 (lo_n) (hi_n) 9 (.slice ao_n L_n cap_n) (ss st2.l)) := Own.drawn o_n14.out d15 (by omega) (by omega)
     have o_y15 : Hid (Own W15 (lo_y) (hi_y) 5 (.slice ao_y st2.b.length cap_y) (bs st2.b)) := Own.drawn o_y14.out d15 (by omega) (by omega)
     have f_t15 : Hid (Oht W15 W4.heap.size W5.heap.size (.slice ao_t L_t cap_t) t) := Oht.drawn f_t14.out d15 (by omega)
     have c_s15 := Ke.c r_s15
     clear r_s14 r_res14 o_all14 o_n14 o_y14
     clear cu14 bw14 d15 f_t14
     cases bb
     ·go_wp2
      go_roundw
      case rel => exact ⟨i2, st2, ao_n, L_n, cap_n, ao_y, st2.b.length, cap_y, by omega, by go_num, HDS.out, r_s15, r_res15, Own.mono o_n15.out (by omega) (by omega), Own.mono o_y15.out (by omega) (by omega), o_all15, f_t15, B15, cu15, bw15, by omega⟩
      case measure => (simp [intOf]; try omega)
     ·go_wp2_with (refine wpl_oneG rfl 3 _ _ rfl (W6.heap.size) 4 (.int .i64 ((st2).b.length : Int)) rfl rfl [.slice ao_n L_n cap_n, .int .i64 st2.h.n, .string st2.h.r, .slice ao_y st2.b.length cap_y, .int .i64 st2.s] 30 r_s15.out (Nat.le_of_ble_eq_true rfl) (by kernel_rfl) rfl [.slice ao_n L_n cap_n, .int .i64 st2.h.n, .string st2.h.r, .slice ao_y st2.b.length cap_y, .int .i64 ((st2).b.length : Int)] rfl ?_)
      intro W16 r_s16 g16
      have f_t16 := Ke.h (Oht.gro f_t15.out g16 (fun k9 h9 => by injection h9 with h9; omega))
      have cu16 := Ke.h (cu15.out.gro g16 (fun h9 => by injection h9 with h9; omega))
      have bw16 := Ke.i bw15 g16
      clear cu15 bw15
      have r_s16 : Hid (W16.heap[W6.heap.size]? = some (.cells #[.slice ao_n L_n cap_n, .int .i64 st2.h.n, .string st2.h.r, .slice ao_y st2.b.length cap_y, .int .i64 ((st2).b.length : Int)] 30 (0, 0))) := r_s16
      have z16 := g16.size
      have B16 : Hid (Apart g (g + 1) w W16) := Apart.gro B15.out g16 (fun k9 h9 => by injection h9 with h9; have := B15.out.size; omega)
      have r_res16 := Ke.s r_res15 g16
      have o_all16 := Ke.t o_all15 r_s15 g16
      have o_n16 := Ke.t o_n15 r_s15 g16
      have o_y16 := Ke.t o_y15 r_s15 g16
      clear r_res15 o_all15 o_n15 o_y15
      clear r_s15 c_s15
      clear f_t15
      clear g16
      go_wp2
      go_roundw
      case rel => exact ⟨i2, ⟨(st2).l, (st2).h, (st2).b, ((st2).b.length : Int)⟩, ao_n, L_n, cap_n, ao_y, st2.b.length, cap_y, by omega, by go_num, Dsq.sure HDS.out, r_s16, r_res16, Own.mono o_n16.out (by omega) (by omega), Own.mono o_y16.out (by omega) (by omega), o_all16, f_t16, B16, cu16, bw16, by omega⟩
      case measure => (simp [intOf]; try omega)
    ·go_simp
     refine (q1 W11 _ (HF.out _ o_all11.out.sl).1).mono ?_
     rintro e W12 ⟨rfl, b12⟩
     refine hK.out _ _ ⟨(keepR (W := W11) hHeld.1 b12), (keepR (W := W11) hHeld.2.1 b12), (keepR (W := W11) hHeld.2.2.1 b12), (keepR (W := W11) hHeld.2.2.2.1 b12), (keepR (W := W11) hHeld.2.2.2.2 b12)⟩ (fun hHeld => ?_)
     clear hK K
     try simp only [Act.put, pq]
     have z12 := b12.size
     have B12 : Hid (Apart g (g + 1) w W12) := B11.out.grow b12
     have r_s12 := Ke.r r_s11 b12
     have r_res12 := Ke.r r_res11 b12
     have o_v12 := Ke.o o_v11 b12
     have o_p12 := Ke.o o_p11 b12
     have o_all12 := Ke.o o_all11 b12
     have c_s12 := Ke.c r_s12
     clear r_s11 c_s11 r_res11 o_v11 o_p11 o_all11
     have f_t12 : Hid (Oht W12 W4.heap.size W5.heap.size (.slice ao_t L_t cap_t) t) := Oht.later f_t11.out b12
     clear f_t11
     have cu12 : Hid (Cur W12 (g) vb xs.length) := cu11.out.keep b12
     have bw12 := Ke.b bw11 b12
     clear cu11 bw11
     refine Ke.z 0 rfl (fun K hK => ?_)
     go_simp
     refine hK.out _ _ ⟨hHeld.1, hHeld.2.1, hHeld.2.2.1, hHeld.2.2.2.1, hHeld.2.2.2.2⟩ (fun hHeld => ?_)
     clear hK K
     try simp only [Act.put, pq]
     refine Ke.z 10 rfl (fun K hK => ?_)
     go_simp
     refine (q2 W12 _ _ _ _ o_v12.out.sl o_p12.out.sl f_t12.out.1.sh (HF.out _ o_all12.out.sl).2).mono ?_
     rintro e W13 ⟨v_n, v_y, rfl, o_n13, o_y13, b13⟩
     refine hK.out _ _ ⟨(keepR (W := W12) hHeld.1 b13), (keepR (W := W12) hHeld.2.1 b13), (keepR (W := W12) hHeld.2.2.1 b13), (keepR (W := W12) hHeld.2.2.2.1 b13), (keepR (W := W12) hHeld.2.2.2.2 b13)⟩ (fun hHeld => ?_)
     clear hK K
     try simp only [Act.put, pq]
     obtain ⟨lo_n, hi_n, lo_y, hi_y, d1_n, d2_n, d3_n, d4_n, d5_n, d6_n, d7_n, oo_n, oo_y⟩ := Sr.pairN o_n13 o_y13 b13.size
     clear o_n13 o_y13
     obtain ⟨ao_n, L_n, cap_n, rfl, _, _⟩ := oo_n.form
     obtain ⟨ao_y, L_y, cap_y, rfl, _, _⟩ := oo_y.form
     have o_n13 : Hid (Own W13 lo_n hi_n 9 (.slice ao_n L_n cap_n) (ss st2.l)) := oo_n
     have o_y13 : Hid (Own W13 lo_y hi_y 5 (.slice ao_y L_y cap_y) (bs st2.b)) := oo_y
     clear oo_n oo_y
     have z13 := b13.size
     have B13 : Hid (Apart g (g + 1) w W13) := B12.out.grow b13
     have r_s13 := Ke.r r_s12 b13
     have r_res13 := Ke.r r_res12 b13
     have o_all13 := Ke.o o_all12 b13
     clear r_s12 c_s12 r_res12 o_v12 o_p12 o_all12
     have f_t13 : Hid (Oht W13 W4.heap.size W5.heap.size (.slice ao_t L_t cap_t) t) := Oht.later f_t12.out b13
     clear f_t12
     have cu13 : Hid (Cur W13 (g) vb xs.length) := cu12.out.keep b13
     have bw13 := Ke.b bw12 b13
     clear cu12 bw12
     obtain rfl : L_y = st2.b.length := by obtain ⟨a9, L9, c9, he, h1, h2⟩ := Mem.Own.form o_y13.out; injection he with _ he2 _; rw [bs_len] at h1 h2; omega
     refine Ke.q 11 ?_; try simp only [Act.put, pq]
     refine Ke.q 12 ?_; try simp only [Act.put, pq]
     refine Ke.q 13 ?_; try simp only [Act.put, pq]
     refine Ke.z 14 rfl (fun K hK => ?_)
     rw [if_pos (by rfl)]
     refine wp_partG 30 _ _ rfl (W6.heap.size) 0 (sc (.slice ao_n L_n cap_n) st2.h (.slice ao_y st2.b.length cap_y) st2.s) rfl rfl [.slice ao_v st.l.length cap_v, .int .i64 st.h.n, .string st.h.r, .slice ao_p st.b.length cap_p, .int .i64 st.s] 30 r_s13.out (Nat.le_of_ble_eq_true rfl) (sizeS _ _ _ _) (oneS _ _ rfl rfl) [.slice ao_n L_n cap_n, .int .i64 st2.h.n, .string st2.h.r, .slice ao_y st2.b.length cap_y, .int .i64 st2.s] rfl ?_
     intro W14 r_s14 g14
     refine hK.out _ _ ⟨(cellGro hHeld.1 g14 (by show some (W6.heap.size) ≠ some (w.heap.size); intro h9; injection h9 with h9; omega)), (cellGro hHeld.2.1 g14 (by show some (W6.heap.size) ≠ some (w.heap.size); intro h9; injection h9 with h9; omega)), (cellGro hHeld.2.2.1 g14 (by show some (W6.heap.size) ≠ some (w.heap.size); intro h9; injection h9 with h9; omega)), (cellGro hHeld.2.2.2.1 g14 (by show some (W6.heap.size) ≠ some (w.heap.size); intro h9; injection h9 with h9; omega)), (cellGro hHeld.2.2.2.2 g14 (by show some (W6.heap.size) ≠ some (w.heap.size); intro h9; injection h9 with h9; omega))⟩ (fun hHeld => ?_)
     clear hK K
     try simp only [Act.put, pq]
     have f_t14 := Ke.h (Oht.gro f_t13.out g14 (fun k9 h9 => by injection h9 with h9; omega))
     have cu14 := Ke.h (cu13.out.gro g14 (fun h9 => by injection h9 with h9; omega))
     have bw14 := Ke.i bw13 g14
     clear cu13 bw13
     have r_s14 : Hid (W14.heap[W6.heap.size]? = some (.cells #[.slice ao_n L_n cap_n, .int .i64 st2.h.n, .string st2.h.r, .slice ao_y st2.b.length cap_y, .int .i64 st2.s] 30 (0, 0))) := r_s14
     have z14 := g14.size
     have B14 : Hid (Apart g (g + 1) w W14) := Apart.gro B13.out g14 (fun k9 h9 => by injection h9 with h9; have := B13.out.size; omega)
     have r_res14 := Ke.s r_res13 g14
     have o_all14 := Ke.t o_all13 r_s13 g14
     have o_n14 := Ke.t o_n13 r_s13 g14
     have o_y14 := Ke.t o_y13 r_s13 g14
     clear r_res13 o_all13 o_n13 o_y13
     clear r_s13
     clear f_t13
     clear g14
     refine wpAnyH_done (by kernel_rfl) ?_ _
     clear hHeld
     go_wp2_with fail
     refine (once10 W0 W14 g _ xs 3 (by omega) (by omega) HSW.out hby hx bw14.out hg cu14.out).mono ?_
     rintro e W15 ⟨bb, rfl, d15⟩
     have z15 : W14.heap.size ≤ W15.heap.size := d15.apart.size
     have B15 : Hid (Apart g (g + 1) w W15) := B14.out.trans d15.apart
     have cu15 : Hid (Cur W15 (g) vb xs.length) := d15.cur
     have bw15 : Hid (Below W0.heap.size W0 W15) := d15.below
     have r_s15 : Hid (W15.heap[W6.heap.size]? = some (.cells #[.slice ao_n L_n cap_n, .int .i64 st2.h.n, .string st2.h.r, .slice ao_y st2.b.length cap_y, .int .i64 st2.s] 30 (0, 0))) := drawn_row r_s14.out d15 (by omega)
     have r_res15 : Hid (W15.heap[w.heap.size]? = some (.cells #[.slice none 0 0, .int .i64 0, .string ⟨#[]⟩, .slice none 0 0, .int .i64 0] 30 (0, 0))) := drawn_row r_res14.out d15 (by omega)
     have o_all15 : Hid (Own W15 (W1.heap.size) (W4.heap.size) 9 (.slice (some ⟨ga, 0, none⟩) all.length cap_all) (ss all)) := Own.drawn o_all14.out d15 (by omega) (by omega)
     have o_n15 : Hid (Own W15 (lo_n) (hi_n) 9 (.slice ao_n L_n cap_n) (ss st2.l)) := Own.drawn o_n14.out d15 (by omega) (by omega)
     have o_y15 : Hid (Own W15 (lo_y) (hi_y) 5 (.slice ao_y st2.b.length cap_y) (bs st2.b)) := Own.drawn o_y14.out d15 (by omega) (by omega)
     have f_t15 : Hid (Oht W15 W4.heap.size W5.heap.size (.slice ao_t L_t cap_t) t) := Oht.drawn f_t14.out d15 (by omega)
     have c_s15 := Ke.c r_s15
     clear r_s14 r_res14 o_all14 o_n14 o_y14
     clear cu14 bw14 d15 f_t14
     cases bb
     ·go_wp2
      go_roundw
      case rel => exact ⟨i2, st2, ao_n, L_n, cap_n, ao_y, st2.b.length, cap_y, by omega, by go_num, HDS.out, r_s15, r_res15, Own.mono o_n15.out (by omega) (by omega), Own.mono o_y15.out (by omega) (by omega), o_all15, f_t15, B15, cu15, bw15, by omega⟩
      case measure => (simp [intOf]; try omega)
     ·go_wp2_with (refine wpl_oneG rfl 3 _ _ rfl (W6.heap.size) 4 (.int .i64 ((st2).b.length : Int)) rfl rfl [.slice ao_n L_n cap_n, .int .i64 st2.h.n, .string st2.h.r, .slice ao_y st2.b.length cap_y, .int .i64 st2.s] 30 r_s15.out (Nat.le_of_ble_eq_true rfl) (by kernel_rfl) rfl [.slice ao_n L_n cap_n, .int .i64 st2.h.n, .string st2.h.r, .slice ao_y st2.b.length cap_y, .int .i64 ((st2).b.length : Int)] rfl ?_)
      intro W16 r_s16 g16
      have f_t16 := Ke.h (Oht.gro f_t15.out g16 (fun k9 h9 => by injection h9 with h9; omega))
      have cu16 := Ke.h (cu15.out.gro g16 (fun h9 => by injection h9 with h9; omega))
      have bw16 := Ke.i bw15 g16
      clear cu15 bw15
      have r_s16 : Hid (W16.heap[W6.heap.size]? = some (.cells #[.slice ao_n L_n cap_n, .int .i64 st2.h.n, .string st2.h.r, .slice ao_y st2.b.length cap_y, .int .i64 ((st2).b.length : Int)] 30 (0, 0))) := r_s16
      have z16 := g16.size
      have B16 : Hid (Apart g (g + 1) w W16) := Apart.gro B15.out g16 (fun k9 h9 => by injection h9 with h9; have := B15.out.size; omega)
      have r_res16 := Ke.s r_res15 g16
      have o_all16 := Ke.t o_all15 r_s15 g16
      have o_n16 := Ke.t o_n15 r_s15 g16
      have o_y16 := Ke.t o_y15 r_s15 g16
      clear r_res15 o_all15 o_n15 o_y15
      clear r_s15 c_s15
      clear f_t15
      clear g16
      go_wp2
      go_roundw
      case rel => exact ⟨i2, ⟨(st2).l, (st2).h, (st2).b, ((st2).b.length : Int)⟩, ao_n, L_n, cap_n, ao_y, st2.b.length, cap_y, by omega, by go_num, Dsq.sure HDS.out, r_s16, r_res16, Own.mono o_n16.out (by omega) (by omega), Own.mono o_y16.out (by omega) (by omega), o_all16, f_t16, B16, cu16, bw16, by omega⟩
      case measure => (simp [intOf]; try omega)
   ·have hlt2 : ¬ (st.l.length : Int) < (all.length : Int) := by omega
    go_wp2_with fail
    refine (once10 W0 W9 g _ xs 3 (by omega) (by omega) HSW.out hby hx bw9.out hg cu9.out).mono ?_
    rintro e W10 ⟨bb, rfl, d10⟩
    have z10 : W9.heap.size ≤ W10.heap.size := d10.apart.size
    have B10 : Hid (Apart g (g + 1) w W10) := B9.out.trans d10.apart
    have cu10 : Hid (Cur W10 (g) vb xs.length) := d10.cur
    have bw10 : Hid (Below W0.heap.size W0 W10) := d10.below
    have r_s10 : Hid (W10.heap[W6.heap.size]? = some (.cells #[.slice ao_v st.l.length cap_v, .int .i64 st.h.n, .string st.h.r, .slice ao_p st.b.length cap_p, .int .i64 st.s] 30 (0, 0))) := drawn_row r_s9.out d10 (by omega)
    have r_res10 : Hid (W10.heap[w.heap.size]? = some (.cells #[.slice none 0 0, .int .i64 0, .string ⟨#[]⟩, .slice none 0 0, .int .i64 0] 30 (0, 0))) := drawn_row r_res9.out d10 (by omega)
    have o_v10 : Hid (Own W10 (W8.heap.size) (W9.heap.size) 9 (.slice ao_v st.l.length cap_v) (ss st.l)) := Own.drawn o_v9.out d10 (by omega) (by omega)
    have o_p10 : Hid (Own W10 (W8.heap.size) (W9.heap.size) 5 (.slice ao_p st.b.length cap_p) (bs st.b)) := Own.drawn o_p9.out d10 (by omega) (by omega)
    have o_all10 : Hid (Own W10 (W1.heap.size) (W4.heap.size) 9 (.slice (some ⟨ga, 0, none⟩) all.length cap_all) (ss all)) := Own.drawn o_all9.out d10 (by omega) (by omega)
    have f_t10 : Hid (Oht W10 W4.heap.size W5.heap.size (.slice ao_t L_t cap_t) t) := Oht.drawn f_t9.out d10 (by omega)
    have c_s10 := Ke.c r_s10
    have c_res10 := Ke.c r_res10
    clear r_s9 c_s9 r_res9 o_v9 o_p9 o_all9
    clear cu9 bw9 d10 f_t9
    cases bb
    ·go_wp2
     go_roundw
     case rel => exact ⟨i2, st, ao_v, st.l.length, cap_v, ao_p, st.b.length, cap_p, by omega, by go_num, (Dsq.down HD.out), r_s10, r_res10, Own.mono o_v10.out (by omega) (by omega), Own.mono o_p10.out (by omega) (by omega), o_all10, f_t10, B10, cu10, bw10, by omega⟩
     case measure => (simp [intOf]; try omega)
    ·go_wp2_with (refine wpl_oneG rfl 3 _ _ rfl (W6.heap.size) 4 (.int .i64 ((st).b.length : Int)) rfl rfl [.slice ao_v st.l.length cap_v, .int .i64 st.h.n, .string st.h.r, .slice ao_p st.b.length cap_p, .int .i64 st.s] 30 r_s10.out (Nat.le_of_ble_eq_true rfl) (by kernel_rfl) rfl [.slice ao_v st.l.length cap_v, .int .i64 st.h.n, .string st.h.r, .slice ao_p st.b.length cap_p, .int .i64 ((st).b.length : Int)] rfl ?_)
     intro W11 r_s11 g11
     have f_t11 := Ke.h (Oht.gro f_t10.out g11 (fun k9 h9 => by injection h9 with h9; omega))
     have cu11 := Ke.h (cu10.out.gro g11 (fun h9 => by injection h9 with h9; omega))
     have bw11 := Ke.i bw10 g11
     clear cu10 bw10
     have r_s11 : Hid (W11.heap[W6.heap.size]? = some (.cells #[.slice ao_v st.l.length cap_v, .int .i64 st.h.n, .string st.h.r, .slice ao_p st.b.length cap_p, .int .i64 ((st).b.length : Int)] 30 (0, 0))) := r_s11
     have z11 := g11.size
     have B11 : Hid (Apart g (g + 1) w W11) := Apart.gro B10.out g11 (fun k9 h9 => by injection h9 with h9; have := B10.out.size; omega)
     have r_res11 := Ke.s r_res10 g11
     have o_v11 := Ke.t o_v10 r_s10 g11
     have o_p11 := Ke.t o_p10 r_s10 g11
     have o_all11 := Ke.t o_all10 r_s10 g11
     have c_s11 := Ke.c r_s11
     clear r_res10 c_res10 o_v10 o_p10 o_all10
     clear r_s10 c_s10
     clear f_t10
     clear g11
     go_wp2
     go_roundw
     case rel => exact ⟨i2, ⟨(st).l, (st).h, (st).b, ((st).b.length : Int)⟩, ao_v, st.l.length, cap_v, ao_p, st.b.length, cap_p, by omega, by go_num, Dsq.sure (Dsq.down HD.out), r_s11, r_res11, Own.mono o_v11.out (by omega) (by omega), Own.mono o_p11.out (by omega) (by omega), o_all11, f_t11, B11, cu11, bw11, by omega⟩
     case measure => (simp [intOf]; try omega)
theorem draw12 (W0 w : World) (g : Nat) (vb : Value) (xs : List Int) (hs : Sl W0 vb (bs xs)) (hby : Byt xs) (hx : xs.length ≤ 140737488355328) (hB : Below W0.heap.size W0 w) (hg : W0.heap.size ≤ g) (hcu : Cur w g vb xs.length) :
  Calls Tryz.prog 99 #[.pointer (some ⟨g, 0, none⟩)] w fun e w' => ∃ (st : Sto) (all : List ByteArray) (t : List Hd) (v u va vt : Value), e = .returned (.tuple #[.agg #[v, .int .i64 st.h.n, .string st.h.r, u, .int .i64 st.s], va, vt]) ∧ Dst t all.length 0 st ∧ 1 ≤ all.length ∧ all.length ≤ 9 ∧ (∀ s ∈ all, s.size ≤ 3) ∧ 1 ≤ t.length ∧ t.length ≤ 10 ∧ (∀ x ∈ t, x.r.size ≤ 32) ∧ Own w' w.heap.size w'.heap.size 9 v (ss st.l) ∧ Own w' w.heap.size w'.heap.size 5 u (bs st.b) ∧ Own w' w.heap.size w'.heap.size 9 va (ss all) ∧ Oh w' w.heap.size w'.heap.size vt t ∧ Drawn W0 w g vb xs w' := by
 refine (draw12t W0 w g vb xs hs hby hx hB hg hcu).mono ?_
 rintro e w' ⟨st, all, t, v, u, va, vt, h1, h2, _, h4⟩
 exact ⟨st, all, t, v, u, va, vt, h1, h2.toDst, h4⟩
end Go.Proofs.YtchonoonclllbaaGreatDoor.Sr
