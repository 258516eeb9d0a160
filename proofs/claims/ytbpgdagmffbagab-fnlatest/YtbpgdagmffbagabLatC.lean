/- Chapter 3: what is drawn to be bumped; the latest of a drawn list is one of it, and none is later; what is bumped is later. -/
import Derived.Test.YtbpgdagmffbagabLatB
import Derived.Test.YtbpgdagmffbagabOrdP
import Derived.Test.YtbpgdagmffbagabOrdE
import Derived.Test.YtbpgdagmffbagabVer9
namespace Go.Proofs.Ytbpgdagmffbagab.Ver
open Go.RowKit Go.Proofs.Ytbpgdagmffbagab.Mem Go.Proofs.Ytbpgdagmffbagab.Laws Go.Proofs.Ytbpgdagmffbagab.Bytes Go.Proofs.Ytbpgdagmffbagab.Sha Go.Proofs.Ytbpgdagmffbagab.Draw
set_option linter.unusedVariables false
set_option linter.unusedSimpArgs false

theorem sizeOne (w : World) (A : Obj) : (w.alloc A).heap.size = w.heap.size + 1 := by
  show (w.heap.push A).size = _
  simp

set_option maxRecDepth 1000000 in
set_option maxHeartbeats 1000000 in
theorem dbump_any (w : World) (vb : Value) (xs : List Int) (hs : Sl w vb (bs xs)) (hby : Byt xs) (hx : xs.length ≤ 140737488355328) :
    Calls Try.prog 11 #[vb] w fun e w' => ∃ a b c p n, e = .returned (.tuple #[.agg #[.int .i64 a, .int .i64 b, .int .i64 c, .string p], .int .i64 n]) ∧ Av a b c p ∧ Below w.heap.size w w' := by
  obtain ⟨Y, q1, HYs, HYb, HY0, hsY⟩ : ∃ Y : World, (Calls Try.prog 15 #[vb] (w.alloc (.cells (vc 0 0 0 ⟨#[]⟩) 25)) fun e w' => e = .returned (.pointer (some ⟨(w.heap.size + 1), 0, none⟩)) ∧ Drawn Y Y (w.heap.size + 1) vb xs w') ∧ Hid (Y.heap.size = (w.heap.size + 1)) ∧ Hid (Below w.heap.size w Y) ∧ Hid (Vr Y w.heap.size 0 0 0 ⟨#[]⟩) ∧ Sl Y vb (bs xs) := by
    have hb : Below w.heap.size w (w.alloc (.cells (vc 0 0 0 ⟨#[]⟩) 25)) := (Below.refl _ _).alloc (Nat.le_refl _) _
    have hsY : Sl (w.alloc (.cells (vc 0 0 0 ⟨#[]⟩) 25)) vb (bs xs) := hs.later hb
    have q := new_any (w.alloc (.cells (vc 0 0 0 ⟨#[]⟩) 25)) vb xs hsY hby hx
    rw [sizeOne] at q
    exact ⟨w.alloc (.cells (vc 0 0 0 ⟨#[]⟩) 25), q, sizeOne w _, hb, heap_alloc_new w _, hsY⟩
  have hgY : Y.heap.size ≤ (w.heap.size + 1) := by have := HYs.out; omega
  go_enter Try.func11, Try.ntmps11
  go_wp2_with fail
  refine q1.mono ?_
  rintro e w1 ⟨rfl, d1⟩
  have X1 : Vr w1 w.heap.size 0 0 0 ⟨#[]⟩ := Vr.apart HY0.out d1.apart (by omega)
  have B1 : Below w.heap.size w w1 := HYb.out.trans (d1.below.mono HYb.out.size)
  have gl1 := d1.cur.lt
  clear q1
  go_wp2_with fail
  refine (any_agg Y w1 (w.heap.size + 1) vb xs hsY hby hx d1.below hgY d1.cur).mono ?_
  rintro e w2 ⟨a, b, c, p, rfl, A1, d2⟩
  have X2 : Vr w2 w.heap.size 0 0 0 ⟨#[]⟩ := Vr.apart X1 d2.apart (by omega)
  have B2 : Below w.heap.size w w2 := B1.trans (d2.apart.below (B := w.heap.size) (by omega) B1.size)
  have s2 := d2.apart.size
  have gl2 := d2.cur.lt
  have n2 : ∀ o, Drawn Y w1 (w.heap.size + 1) vb xs (w2.alloc o) := fun o => d2.on hgY gl1 ((Below.refl _ _).alloc s2 _)
  have X3 : ∀ o, Vr (w2.alloc o) w.heap.size 0 0 0 ⟨#[]⟩ := fun o => Vr.same X2 ((Below.refl _ _).alloc (Nat.le_refl _) _)
  have B3 : ∀ o, Below w.heap.size w (w2.alloc o) := fun o => B2.alloc B2.size _
  clear X1 B1 d1 d2 X2 B2
  go_wp2_with fail
  refine (int_any Y _ (w.heap.size + 1) vb xs w2.heap.size [0, 1, 2, 3, -1] (lit_block _ _ _) (by omega) (by simp) (by simp) hsY hby hx (n2 _).below hgY (n2 _).cur).mono ?_
  rintro e w4 ⟨n, rfl, hm, d4⟩
  have X4 : Vr w4 w.heap.size 0 0 0 ⟨#[]⟩ := Vr.apart (X3 _) d4.apart (by omega)
  have B4 : Below w.heap.size w w4 := (B3 _).trans (d4.apart.below (B := w.heap.size) (by omega) (B3 _).size)
  clear X3 B3 n2 d4 hm
  go_wp2_with (refine wpList_store_row rfl 25 _ _ rfl w.heap.size (vc a b c p) rfl rfl 25 (vc 0 0 0 ⟨#[]⟩) X4 (sizeV a b c p) rfl (oneV a b c p) ?_)
  exact bodyPost_ret (results_row_tmp rfl _ _ w.heap.size 25 (vc a b c p) (0, 0) _ rfl (Vr.row X4 a b c p) Try.underlying25 rfl (sizeV a b c p)) rfl ⟨a, b, c, p, n, rfl, A1, below_setRow B4 (Nat.le_refl _) _⟩

/-- a drawn one -/
def DvQ (q : Int × Int × Int × ByteArray) : Prop := Dv q.1 q.2.1 q.2.2.1 q.2.2.2
/-- less, of drawn ones -/
def ltQ (q r : Int × Int × Int × ByteArray) : Prop := q.1 < r.1 ∨ q.1 = r.1 ∧ (q.2.1 < r.2.1 ∨ q.2.1 = r.2.1 ∧ (q.2.2.1 < r.2.2.1 ∨ q.2.2.1 = r.2.2.1 ∧ rank q.2.2.2 < rank r.2.2.2))
theorem lessQ_iff {q r : Int × Int × Int × ByteArray} (hq : DvQ q) (hr : DvQ r) : lessQ q r = true ↔ ltQ q r := by
  unfold lessQ
  rw [less_D hq.2.2.2 hr.2.2.2]
  simp only [decide_eq_true_eq]
  rfl
theorem lat_facts : ∀ (l : List (Int × Int × Int × ByteArray)) (q : Int × Int × Int × ByteArray), (∀ x ∈ q :: l, DvQ x) → latF q l ∈ q :: l ∧ ∀ x ∈ q :: l, lessQ (latF q l) x = false := by
  intro l
  induction l with
  | nil =>
    intro q h
    refine ⟨List.mem_cons_self .., fun x hx => ?_⟩
    have hx' : x = q := by simpa using hx
    subst hx'
    have := lessQ_iff (h x (List.mem_cons_self ..)) (h x (List.mem_cons_self ..))
    show lessQ x x = false
    rw [Bool.eq_false_iff]
    intro hc
    have := this.1 hc
    unfold ltQ at this
    omega
  | cons v r ih =>
    intro q h
    have hq := h q (by simp)
    have hv := h v (by simp)
    obtain ⟨m, hm⟩ : ∃ m, m = if lessQ q v = true then v else q := ⟨_, rfl⟩
    have hl : latF q (v :: r) = latF m r := by unfold latF; rw [List.foldl_cons, hm]
    have hmd : DvQ m := by rw [hm]; split <;> assumption
    obtain ⟨i1, i2⟩ := ih m (fun x hx => by
      rcases List.mem_cons.1 hx with rfl | hx
      · exact hmd
      · exact h x (by simp [hx]))
    have hLd : DvQ (latF m r) := by
      rcases List.mem_cons.1 i1 with h5 | h5
      · rw [h5]; exact hmd
      · exact h _ (by simp [h5])
    rw [hl]
    have hmm : m = q ∨ m = v := by rw [hm]; split; exact .inr rfl; exact .inl rfl
    refine ⟨?_, fun x hx => ?_⟩
    · rcases List.mem_cons.1 i1 with h5 | h5
      · rcases hmm with h6 | h6
        · rw [h5, h6]; simp
        · rw [h5, h6]; simp
      · simp [h5]
    · have j := i2 m (by simp)
      have hjm : ¬ ltQ (latF m r) m := fun h => by rw [(lessQ_iff hLd hmd).2 h] at j; cases j
      have key : ∀ y, DvQ y → ¬ ltQ m y → lessQ (latF m r) y = false := by
        intro y hy hn
        rw [Bool.eq_false_iff]
        intro hc
        have h7 := (lessQ_iff hLd hy).1 hc
        unfold ltQ at h7 hjm hn
        omega
      have c1 : lessQ q v = true → m = v := fun h => by rw [hm, if_pos h]
      have c2 : ¬ lessQ q v = true → m = q := fun h => by rw [hm, if_neg h]
      rcases List.mem_cons.1 hx with rfl | hx
      · apply key x hq
        by_cases hc : lessQ x v = true
        · rw [c1 hc]
          have := (lessQ_iff hq hv).1 hc
          unfold ltQ at this ⊢
          omega
        · rw [c2 hc]
          unfold ltQ
          omega
      · rcases List.mem_cons.1 hx with rfl | hx
        · apply key x hv
          by_cases hc : lessQ q x = true
          · rw [c1 hc]
            unfold ltQ
            omega
          · rw [c2 hc]
            intro h8
            exact hc ((lessQ_iff hq hv).2 h8)
        · exact i2 x (by simp [hx])

theorem bump_facts {a b c : Int} {p : ByteArray} (part : Int) : bump a b c p part = (a, b, c, p) ∨
    (decide (cmpV a b c p (bump a b c p part).1 (bump a b c p part).2.1 (bump a b c p part).2.2.1 (bump a b c p part).2.2.2 < 0) = true ∧ okV (bump a b c p part).1 (bump a b c p part).2.1 (bump a b c p part).2.2.1 (bump a b c p part).2.2.2 = true ∧ (bump a b c p part).2.2.2 = ⟨#[]⟩) := by
  unfold bump
  by_cases h1 : okV a b c p = true
  · rw [if_pos h1]
    by_cases p0 : part = 0
    · rw [if_pos p0]
      by_cases h2 : okV (a + 1) 0 0 ⟨#[]⟩ = true
      · rw [if_pos h2]
        refine .inr ⟨?_, h2, rfl⟩
        apply decide_eq_true
        have e : cmpI a (a + 1) = -1 := by unfold cmpI; rw [if_pos (by omega)]
        show cmpV a b c p (a + 1) 0 0 ⟨#[]⟩ < 0
        unfold cmpV
        rw [e]
        simp [orL]
      · rw [if_neg h2]; exact .inl rfl
    · rw [if_neg p0]
      by_cases p1 : part = 1
      · rw [if_pos p1]
        by_cases h2 : okV a (b + 1) 0 ⟨#[]⟩ = true
        · rw [if_pos h2]
          refine .inr ⟨?_, h2, rfl⟩
          apply decide_eq_true
          have e : cmpI b (b + 1) = -1 := by unfold cmpI; rw [if_pos (by omega)]
          have e0 : cmpI a a = 0 := by unfold cmpI; simp
          show cmpV a b c p a (b + 1) 0 ⟨#[]⟩ < 0
          unfold cmpV
          rw [e, e0]
          simp [orL]
        · rw [if_neg h2]; exact .inl rfl
      · rw [if_neg p1]
        by_cases p2 : part = 2
        · rw [if_pos p2]
          by_cases h2 : okV a b (c + 1) ⟨#[]⟩ = true
          · rw [if_pos h2]
            refine .inr ⟨?_, h2, rfl⟩
            apply decide_eq_true
            have e : cmpI c (c + 1) = -1 := by unfold cmpI; rw [if_pos (by omega)]
            have e0 : cmpI a a = 0 := by unfold cmpI; simp
            have e1 : cmpI b b = 0 := by unfold cmpI; simp
            show cmpV a b c p a b (c + 1) ⟨#[]⟩ < 0
            unfold cmpV
            rw [e, e0, e1]
            simp [orL]
          · rw [if_neg h2]; exact .inl rfl
        · rw [if_neg p2]; exact .inl rfl
  · rw [if_neg h1]; exact .inl rfl
theorem bump_size {a b c : Int} {p : ByteArray} (part : Int) (hp : p.size ≤ 100) : (bump a b c p part).2.2.2.size ≤ 100 := by
  rcases bump_facts (a := a) (b := b) (c := c) (p := p) part with h | h
  · rw [h]; exact hp
  · rw [h.2.2]; exact Nat.zero_le _

end Go.Proofs.Ytbpgdagmffbagab.Ver
