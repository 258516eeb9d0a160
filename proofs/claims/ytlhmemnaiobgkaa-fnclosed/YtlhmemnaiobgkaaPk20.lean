/- Texts in one: Se5, Se3, EntI, Se4, Se7, Se9, SeF. -/
import Derived.Test.YtlhmemnaiobgkaaPk8
import Derived.Test.YtlhmemnaiobgkaaPk16
import Derived.Test.YtlhmemnaiobgkaaPk5
import Derived.Test.YtlhmemnaiobgkaaPk18
import Derived.Test.YtlhmemnaiobgkaaPk13
import Derived.Test.YtlhmemnaiobgkaaPk12
import Derived.Test.YtlhmemnaiobgkaaPk19
/- Chapter 16, the specification's side: a need in order, of one path the later. -/
namespace Go.Proofs.Ytlhmemnaiobgkaa.Se
open Go.RowKit Go.Proofs.Ytlhmemnaiobgkaa.Mem Go.Proofs.Ytlhmemnaiobgkaa.Laws Go.Proofs.Ytlhmemnaiobgkaa.Ver Go.Proofs.Ytlhmemnaiobgkaa.Ent Go.Proofs.Ytlhmemnaiobgkaa.Fe
set_option linter.unusedVariables false
set_option linter.unusedSimpArgs false

theorem max16_hit {l : List Nd} {q x : Nd} {k : Nat} (h : l[k]? = some x) (he : cov1 q x = true) : max16 l q = l := by
  unfold max16
  rw [if_pos (List.any_eq_true.2 ⟨x, List.mem_of_getElem? h, he⟩)]
theorem max16_none {l : List Nd} {q : Nd} (h : ∀ x ∈ l, cov1 q x = false) : max16 l q = insN l q := by
  unfold max16
  rw [if_neg]
  intro ha
  obtain ⟨x, hx, hc⟩ := List.any_eq_true.1 ha
  rw [h x hx] at hc
  cases hc

set_option maxRecDepth 1000000 in
set_option maxHeartbeats 4000000 in
theorem max_spec (w : World) (v : Value) (l : List Nd) (q : Nd) (h : Sd w v l) (hl : l.length ≤ 1000) (hz : ∀ x ∈ l, x.pre.size ≤ 1000000000000) (hq : q.pre.size ≤ 1000000000000) :
    Calls Try.prog 36 #[v, .agg #[.string q.path, .int .i64 q.a, .int .i64 q.b, .int .i64 q.c, .string q.pre]] w fun e w' => ∃ v', e = .returned v' ∧ (v' = v ∧ max16 l q = l ∨ Od w' w.heap.size w'.heap.size v' (max16 l q)) ∧ Below w.heap.size w w' := by
  have HS : Hid (Sd w v l) := h
  obtain ⟨_, ao, cap, rfl, hcap, _, _⟩ := h
  have B0 : Hid (Below w.heap.size w w) := Below.refl _ _
  obtain ⟨W1, HW1, b1, y1, hS1, r_q1⟩ := Ke.l1 w #[.string q.path, .int .i64 q.a, .int .i64 q.b, .int .i64 q.c, .string q.pre] 32
  have z1 := b1.size
  have B1 := Ke.b B0 b1
  have c_q1 := Ke.c r_q1
  go_enter Try.func36, Try.ntmps36
  go_wp2_with fail
  rw [HW1.out]
  go_loopw [5] (fun i wr => ∃ k : Nat, k ≤ l.length ∧ i = .int .i64 (k : Int) ∧ Hid (∀ x ∈ l.take k, cov1 q x = false) ∧ Hid (Below w.heap.size w wr) ∧ Hid (wr.heap[w.heap.size]? = some (.cells #[.string q.path, .int .i64 q.a, .int .i64 q.b, .int .i64 q.c, .string q.pre] 32 (0, 0)))) (fun i _ => l.length - (intOf i).toNat)
  case atStart => exact ⟨0, Nat.zero_le _, rfl, (fun x hx => by simp at hx), B1, r_q1⟩
  case round =>
    obtain ⟨k, hk, rfl, HN, B2, r_q2⟩ := hrel
    obtain ⟨W2, hW2⟩ : ∃ X, X = wr := ⟨_, rfl⟩
    subst hW2
    clear r_q1 c_q1
    have c_q2 := Ke.c r_q2
    by_cases hlt : k < l.length
    · have hlt2 : (k : Int) < (l.length : Int) := by omega
      obtain ⟨x, hx⟩ : ∃ x, l[k]? = some x := ⟨l[k], by simp [hlt]⟩
      obtain ⟨b, off, cap9, he, _, m0, m1, m2, m3, m4⟩ := Sd.at (HS.out.later B2.out) hx
      simp only [Value.slice.injEq] at he
      obtain ⟨rfl, _, rfl⟩ := he
      have HX : Hid (l[k]? = some x) := hx
      have hxp := hz x (List.mem_of_getElem? hx)
      clear hx
      obtain ⟨P, hP⟩ : ∃ P, (x.path.toList == q.path.toList) = P := ⟨_, rfl⟩
      obtain ⟨V, hV⟩ : ∃ V, lessV x.a x.b x.c x.pre q.a q.b q.c q.pre = V := ⟨_, rfl⟩
      have HI : Hid (cov1 q x = (P && !V)) := by show cov1 _ _ = _; unfold cov1 eqT lv; rw [hP, hV]
      have q1 : ∀ W, _ := fun W => less_spec W x.a x.b x.c x.pre q.a q.b q.c q.pre hxp hq
      simp only [hV] at q1
      clear hV
      cases P
      · go_wp2_with fail
        refine wp_region_held_drew (S := fun w' => w'.cell? ⟨w.heap.size, 0, none⟩ = some (.string q.path) ∧ w'.cell? ⟨w.heap.size, 1, none⟩ = some (.int .i64 q.a) ∧ w'.cell? ⟨w.heap.size, 2, none⟩ = some (.int .i64 q.b) ∧ w'.cell? ⟨w.heap.size, 3, none⟩ = some (.int .i64 q.c) ∧ w'.cell? ⟨w.heap.size, 4, none⟩ = some (.string q.pre) ∧ w'.cell? ⟨b, off + k * 5, none⟩ = some (.string x.path) ∧ w'.cell? ⟨b, off + k * 5 + 1, none⟩ = some (.int .i64 x.a) ∧ w'.cell? ⟨b, off + k * 5 + 2, none⟩ = some (.int .i64 x.b) ∧ w'.cell? ⟨b, off + k * 5 + 3, none⟩ = some (.int .i64 x.c) ∧ w'.cell? ⟨b, off + k * 5 + 4, none⟩ = some (.string x.pre)) (by kernel_rfl) ⟨(c_q2 0), (c_q2 1), (c_q2 2), (c_q2 3), (c_q2 4), m0, m1, m2, m3, m4⟩ (fun hHeld => ?_)
        refine Ke.y 0 rfl (fun _ _ _ h => h) ?_
        try simp only [Act.put, pu1, pu2, pu3, pu4, pu5, pu6]
        refine Ke.y 1 rfl (fun _ _ _ h => h) ?_
        try simp only [Act.put, pu1, pu2, pu3, pu4, pu5, pu6]
        refine Ke.y 2 rfl (fun _ _ _ h => h) ?_
        try simp only [Act.put, pu1, pu2, pu3, pu4, pu5, pu6]
        refine Ke.y 3 rfl (fun _ _ _ h => h) ?_
        try simp only [Act.put, pu1, pu2, pu3, pu4, pu5, pu6]
        refine Ke.y 4 rfl (fun _ _ _ h => h) ?_
        try simp only [Act.put, pu1, pu2, pu3, pu4, pu5, pu6]
        refine Ke.y 5 rfl (fun _ _ _ h => h) ?_
        try simp only [Act.put, pu1, pu2, pu3, pu4, pu5, pu6]
        refine Ke.y 6 rfl (fun _ _ _ h => h) ?_
        try simp only [Act.put, pu1, pu2, pu3, pu4, pu5, pu6]
        refine Ke.y 7 rfl (fun _ _ _ h => h) ?_
        try simp only [Act.put, pu1, pu2, pu3, pu4, pu5, pu6]
        refine Ke.y 8 rfl (fun _ _ _ h => h) ?_
        try simp only [Act.put, pu1, pu2, pu3, pu4, pu5, pu6]
        refine Ke.x 9 rfl (fun _ _ _ h => h) ?_
        try simp only [Act.put, pu1, pu2, pu3, pu4, pu5, pu6]
        refine Ke.x 10 rfl (fun _ _ _ h => h) ?_
        try simp only [Act.put, pu1, pu2, pu3, pu4, pu5, pu6]
        refine Ke.x 11 rfl (fun _ _ _ h => h) ?_
        try simp only [Act.put, pu1, pu2, pu3, pu4, pu5, pu6]
        refine Ke.x 12 rfl (fun _ _ _ h => h) ?_
        try simp only [Act.put, pu1, pu2, pu3, pu4, pu5, pu6]
        refine Ke.x 13 rfl (fun _ _ _ h => h) ?_
        try simp only [Act.put, pu1, pu2, pu3, pu4, pu5, pu6]
        refine Ke.x 14 rfl (fun _ _ _ h => h) ?_
        try simp only [Act.put, pu1, pu2, pu3, pu4, pu5, pu6]
        refine Ke.x 15 rfl (fun _ _ _ h => h) ?_
        try simp only [Act.put, pu1, pu2, pu3, pu4, pu5, pu6]
        refine Ke.x 16 rfl (fun _ _ _ h => h) ?_
        try simp only [Act.put, pu1, pu2, pu3, pu4, pu5, pu6]
        refine Ke.x 17 rfl (fun _ _ _ h => h) ?_
        try simp only [Act.put, pu1, pu2, pu3, pu4, pu5, pu6]
        refine Ke.y 18 rfl (fun _ _ _ h => h) ?_
        try simp only [Act.put, pu1, pu2, pu3, pu4, pu5, pu6]
        refine wpAnyH_done (by kernel_rfl) ?_ _
        clear hHeld
        obtain ⟨W3, HW3, b3⟩ : ∃ X, Hid (W2.drew = X) ∧ Below W2.heap.size W2 X := ⟨_, rfl, Below.drew (Below.refl _ _)⟩
        rw [HW3.out]
        have z3 := b3.size
        have B3 := Ke.b B2 b3
        have r_q3 := Ke.r r_q2 b3
        have c_q3 := Ke.c r_q3
        clear r_q2 c_q2
        go_wp2
        go_roundw
        case rel => exact ⟨k + 1, by omega, by go_num, fun y hy => by rw [take_snoc15 HX.out] at hy; rcases List.mem_append.1 hy with h9 | h9; exact HN.out y h9; rw [List.mem_singleton.1 h9]; exact HI.out, B3, r_q3⟩
        case measure => simp [intOf]; omega
      · go_wp2_with fail
        refine wp_region_held_drew (S := fun w' => w'.cell? ⟨w.heap.size, 0, none⟩ = some (.string q.path) ∧ w'.cell? ⟨w.heap.size, 1, none⟩ = some (.int .i64 q.a) ∧ w'.cell? ⟨w.heap.size, 2, none⟩ = some (.int .i64 q.b) ∧ w'.cell? ⟨w.heap.size, 3, none⟩ = some (.int .i64 q.c) ∧ w'.cell? ⟨w.heap.size, 4, none⟩ = some (.string q.pre) ∧ w'.cell? ⟨b, off + k * 5, none⟩ = some (.string x.path) ∧ w'.cell? ⟨b, off + k * 5 + 1, none⟩ = some (.int .i64 x.a) ∧ w'.cell? ⟨b, off + k * 5 + 2, none⟩ = some (.int .i64 x.b) ∧ w'.cell? ⟨b, off + k * 5 + 3, none⟩ = some (.int .i64 x.c) ∧ w'.cell? ⟨b, off + k * 5 + 4, none⟩ = some (.string x.pre)) (by kernel_rfl) ⟨(c_q2 0), (c_q2 1), (c_q2 2), (c_q2 3), (c_q2 4), m0, m1, m2, m3, m4⟩ (fun hHeld => ?_)
        obtain ⟨W3, HW3, b3⟩ : ∃ X, Hid (W2.drew = X) ∧ Below W2.heap.size W2 X := ⟨_, rfl, Below.drew (Below.refl _ _)⟩
        have HHW3 := HW3.out
        rw [HHW3] at hHeld ⊢
        clear HHW3
        have z3 := b3.size
        have B3 := Ke.b B2 b3
        have r_q3 := Ke.r r_q2 b3
        have c_q3 := Ke.c r_q3
        clear r_q2 c_q2
        refine Ke.y 0 rfl (fun _ _ _ h => h) ?_
        try simp only [Act.put, pu1, pu2, pu3, pu4, pu5, pu6]
        refine Ke.y 1 rfl (fun _ _ _ h => h) ?_
        try simp only [Act.put, pu1, pu2, pu3, pu4, pu5, pu6]
        refine Ke.y 2 rfl (fun _ _ _ h => h) ?_
        try simp only [Act.put, pu1, pu2, pu3, pu4, pu5, pu6]
        refine Ke.y 3 rfl (fun _ _ _ h => h) ?_
        try simp only [Act.put, pu1, pu2, pu3, pu4, pu5, pu6]
        refine Ke.y 4 rfl (fun _ _ _ h => h) ?_
        try simp only [Act.put, pu1, pu2, pu3, pu4, pu5, pu6]
        refine Ke.y 5 rfl (fun _ _ _ h => h) ?_
        try simp only [Act.put, pu1, pu2, pu3, pu4, pu5, pu6]
        refine Ke.y 6 rfl (fun _ _ _ h => h) ?_
        try simp only [Act.put, pu1, pu2, pu3, pu4, pu5, pu6]
        refine Ke.y 7 rfl (fun _ _ _ h => h) ?_
        try simp only [Act.put, pu1, pu2, pu3, pu4, pu5, pu6]
        refine Ke.y 8 rfl (fun _ _ _ h => h) ?_
        try simp only [Act.put, pu1, pu2, pu3, pu4, pu5, pu6]
        refine Ke.y 9 rfl (fun _ _ _ h => h) ?_
        try simp only [Act.put, pu1, pu2, pu3, pu4, pu5, pu6]
        refine Ke.y 10 rfl (fun _ _ _ h => h) ?_
        try simp only [Act.put, pu1, pu2, pu3, pu4, pu5, pu6]
        refine Ke.y 11 rfl (fun _ _ _ h => h) ?_
        try simp only [Act.put, pu1, pu2, pu3, pu4, pu5, pu6]
        refine Ke.y 12 rfl (fun _ _ _ h => h) ?_
        try simp only [Act.put, pu1, pu2, pu3, pu4, pu5, pu6]
        refine Ke.y 13 rfl (fun _ _ _ h => h) ?_
        try simp only [Act.put, pu1, pu2, pu3, pu4, pu5, pu6]
        refine Ke.y 14 rfl (fun _ _ _ h => h) ?_
        try simp only [Act.put, pu1, pu2, pu3, pu4, pu5, pu6]
        refine Ke.y 15 rfl (fun _ _ _ h => h) ?_
        try simp only [Act.put, pu1, pu2, pu3, pu4, pu5, pu6]
        refine Ke.z 16 rfl (fun K hK => ?_)
        go_simp
        refine (q1 W3).mono ?_
        rintro e W4 ⟨rfl, b4⟩
        refine hK.out _ _ ⟨(keepR (W := W3) hHeld.1 b4), (keepR (W := W3) hHeld.2.1 b4), (keepR (W := W3) hHeld.2.2.1 b4), (keepR (W := W3) hHeld.2.2.2.1 b4), (keepR (W := W3) hHeld.2.2.2.2.1 b4), (keepR (W := W3) hHeld.2.2.2.2.2.1 b4), (keepR (W := W3) hHeld.2.2.2.2.2.2.1 b4), (keepR (W := W3) hHeld.2.2.2.2.2.2.2.1 b4), (keepR (W := W3) hHeld.2.2.2.2.2.2.2.2.1 b4), (keepR (W := W3) hHeld.2.2.2.2.2.2.2.2.2 b4)⟩ (fun hHeld => ?_)
        clear hK K
        try simp only [Act.put, pu1, pu2, pu3, pu4, pu5, pu6]
        have z4 := b4.size
        have B4 := Ke.b B3 b4
        have r_q4 := Ke.r r_q3 b4
        have c_q4 := Ke.c r_q4
        clear r_q3 c_q3
        refine Ke.y 17 rfl (fun _ _ _ h => h) ?_
        try simp only [Act.put, pu1, pu2, pu3, pu4, pu5, pu6]
        refine Ke.y 18 rfl (fun _ _ _ h => h) ?_
        try simp only [Act.put, pu1, pu2, pu3, pu4, pu5, pu6]
        refine wpAnyH_done (by kernel_rfl) ?_ _
        clear hHeld
        cases V
        · go_wp2
          go_ret
          first | exact ⟨_, rfl, .inl ⟨rfl, max16_hit HX.out HI.out⟩, B4.out⟩ | exact ⟨_, by rfl, .inl ⟨by rfl, max16_hit HX.out HI.out⟩, B4.out⟩
        · go_wp2
          go_roundw
          case rel => exact ⟨k + 1, by omega, by go_num, fun y hy => by rw [take_snoc15 HX.out] at hy; rcases List.mem_append.1 hy with h9 | h9; exact HN.out y h9; rw [List.mem_singleton.1 h9]; exact HI.out, B4, r_q4⟩
          case measure => simp [intOf]; omega
    · have hlt2 : ¬ (k : Int) < (l.length : Int) := by omega
      have HE : Hid (k = l.length) := by show _ = _; omega
      have q2 := put_any W2 _ l q (HS.out.later B2.out) hl
      go_wp2_with fail
      refine q2.mono ?_
      rintro e w2 ⟨v2, rfl, o2, b2⟩
      go_wp2
      go_ret
      first | exact ⟨_, rfl, .inr (by rw [max16_none (fun y hy => HN.out y (by rw [HE.out, List.take_length]; exact hy))]; exact On.mono o2 B2.out.size (Nat.le_refl _)), B2.out.trans (b2.mono B2.out.size)⟩ | skip

end Go.Proofs.Ytlhmemnaiobgkaa.Se

/- Chapter 16: what the laws say of what is reached and selected; plain facts. -/
namespace Go.Proofs.Ytlhmemnaiobgkaa.Se
open Go.RowKit Go.Proofs.Ytlhmemnaiobgkaa.Mem Go.Proofs.Ytlhmemnaiobgkaa.Laws Go.Proofs.Ytlhmemnaiobgkaa.Ver Go.Proofs.Ytlhmemnaiobgkaa.Ent Go.Proofs.Ytlhmemnaiobgkaa.Fe
set_option linter.unusedVariables false
set_option linter.unusedSimpArgs false

/-- what is reached without a fault -/
structure Rch (l : List Ev) (roots row : List Nd) : Prop where
  app : ∃ t, row = roots ++ t
  nodup : row.Nodup
  len : row.length ≤ 60
  has : ∀ q ∈ row, Hs l row q
  least : ∀ C : List Nd, (∀ q ∈ roots, q ∈ C) → (∀ q ∈ C, ∀ e, find15 q l = some e → ∀ n ∈ e.l, n ∈ C) → ∀ q ∈ row, q ∈ C
theorem reach_form {l : List Ev} {roots : List Nd} (h : (reach16 l roots).2 = 0) : needs5 roots = true ∧ reach16 l roots = walk16 l 61 roots 0 := by
  unfold reach16 at h ⊢
  by_cases hn : needs5 roots = true
  · rw [if_pos hn]; exact ⟨hn, rfl⟩
  · rw [if_neg hn] at h; cases h
theorem reach_rch {l : List Ev} {roots : List Nd} (h : (reach16 l roots).2 = 0) : Rch l roots (reach16 l roots).1 := by
  obtain ⟨hn, he⟩ := reach_form h
  rw [he] at h ⊢
  obtain ⟨hu, hl⟩ := needs_up hn
  obtain ⟨h1, h2, h3, h4, h5⟩ := walk16_good l 61 roots 0 hu.nodup (by omega) (Nat.zero_le _) (by omega) (fun q hq => by simp at hq) h
  exact ⟨h1, h2, h3, h4, h5⟩
theorem Rch.root {l : List Ev} {roots row : List Nd} (h : Rch l roots row) {q : Nd} (hq : q ∈ roots) : q ∈ row := by
  obtain ⟨t, ht⟩ := h.app
  rw [ht]; simp [hq]
/-- what was selected covers all that was reached, and is closed -/
theorem Rch.closed {l : List Ev} {roots row out : List Nd} (h : Rch l roots row) (hs : Sel row out) : closed16 l out = true := by
  unfold closed16
  rw [List.all_eq_true]
  intro q hq
  obtain ⟨e, h1, _, h3⟩ := h.has q (hs.sub q hq)
  simp only [h1]
  exact covers_iff.2 fun n hn => hs.cov n (h3 n hn)
theorem Rch.covers {l : List Ev} {roots row out : List Nd} (h : Rch l roots row) (hs : Sel row out) : covers16 out roots = true :=
  covers_iff.2 fun n hn => hs.cov n (h.root hn)
theorem Sel.covers {row out ns : List Nd} (hs : Sel row out) (hn : ∀ n ∈ ns, n ∈ row) : covers16 out ns = true :=
  covers_iff.2 fun n h => hs.cov n (hn n h)
theorem Sel.some {row out : List Nd} (hs : Sel row out) (h : row ≠ []) : out ≠ [] := by
  cases row with
  | nil => exact absurd rfl h
  | cons q r =>
    obtain ⟨x, hx, _⟩ := hs.cov q (by simp)
    intro he
    rw [he] at hx
    cases hx
/-- what was selected, selected of itself -/
theorem select_again {D : Nd → Prop} (hL : Lin D) {l : List Ev} {roots row : List Nd} (h : Rch l roots row) (hD : ∀ x ∈ row, D x) (hn : needs5 (sel16 row) = true) :
    select16 l (sel16 row) = (sel16 row, 0) := by
  have hs := sel_sel hL row hD
  have hc : (reach16 l (sel16 row)).2 = 0 := by
    unfold reach16
    rw [if_pos hn]
    obtain ⟨hu, hl⟩ := needs_up hn
    exact walk16_ok l h.len h.has 61 _ 0 hu.nodup (by omega) hs.sub
  have h2 := reach_rch hc
  have hsub : ∀ x ∈ (reach16 l (sel16 row)).1, x ∈ row := h2.least row hs.sub (by
    intro q hq e he n hn
    obtain ⟨e2, a1, _, a3⟩ := h.has q hq
    rw [he] at a1
    simp only [Option.some.injEq] at a1
    subst a1
    exact a3 n hn)
  have hs2 := sel_sel hL (reach16 l (sel16 row)).1 (fun x hx => hD x (hsub x hx))
  unfold select16
  rw [hc, sel_again hL hs hs2 hD (fun x hx => h2.root hx) hsub]
/-- texts of a list, all apart, are no more than the list has -/
theorem up_len {l : List Nd} {P : List ByteArray} (h : Up l) (hP : ∀ x ∈ l, x.path ∈ P) : l.length ≤ P.length := by
  induction l generalizing P with
  | nil => simp
  | cons x r ih =>
    obtain ⟨h1, h2⟩ := List.pairwise_cons.1 h
    have hx : x.path ∈ P := hP x (by simp)
    have := ih (P := P.filter fun y => !eqT y x.path) h2 (fun y hy => List.mem_filter.2 ⟨hP y (by simp [hy]), by
      rw [eqT_no.2 (fun he => by have := h1 y hy; rw [he, lt_irr] at this; cases this)]; rfl⟩)
    have hlt : (P.filter fun y => !eqT y x.path).length < P.length := by
      rw [List.length_filter_lt_length_iff_exists]
      exact ⟨x.path, hx, by rw [(eqT_same _ _).2 rfl]; decide⟩
    simp
    omega
theorem up_rise : ∀ l : List Nd, Up l → (∀ x ∈ l, x.ok = true) → rise l = true := by
  intro l
  induction l with
  | nil => intro _ _; rfl
  | cons x r ih =>
    intro h ho
    obtain ⟨h1, h2⟩ := List.pairwise_cons.1 h
    cases r with
    | nil => exact ho x (by simp)
    | cons y r =>
      show (x.ok && ltT x.path y.path && rise (y :: r)) = true
      rw [ho x (by simp), h1 y (by simp), ih h2 (fun z hz => ho z (by simp [hz]))]
      rfl
theorem find_name {q : Nd} {l : List Ev} {e : Ev} (h : find15 q l = some e) : e.n = q ∧ e ∈ l := by
  unfold find15 at h
  exact ⟨(isN_iff _ _).1 (by simpa using List.find?_some h), List.mem_of_find?_eq_some h⟩
/-- what has an entry is right -/
theorem Hs.ok {l : List Ev} {row : List Nd} {q : Nd} (h : Hs l row q) : q.ok = true := by
  obtain ⟨e, h1, h2, _⟩ := h
  rw [← (find_name h1).1]
  unfold entry5 at h2
  simp only [Bool.and_eq_true] at h2
  exact h2.1.1.2
/-- all that is reached has what the roots have and all needs -/
theorem Rch.all {l : List Ev} {roots row : List Nd} (h : Rch l roots row) {D : Nd → Prop} (h1 : ∀ q ∈ roots, D q) (h2 : ∀ e ∈ l, ∀ n ∈ e.l, D n) : ∀ q ∈ row, D q := by
  haveI : DecidablePred D := fun a => Classical.propDecidable _
  intro q hq
  have := h.least (row.filter fun x => decide (D x)) (fun x hx => List.mem_filter.2 ⟨h.root hx, by simpa using h1 x hx⟩) (by
    intro x hx e he n hn
    obtain ⟨hx1, _⟩ := List.mem_filter.1 hx
    obtain ⟨e2, a1, _, a3⟩ := h.has x hx1
    rw [he] at a1
    simp only [Option.some.injEq] at a1
    subst a1
    exact List.mem_filter.2 ⟨a3 n hn, by simpa using h2 e (find_name he).2 n hn⟩) q hq
  simpa using (List.mem_filter.1 this).2

end Go.Proofs.Ytlhmemnaiobgkaa.Se

/- Chapter 5, the laws' helpers: lists of needs and entries held against each other, as the language does it. -/
namespace Go.Proofs.Ytlhmemnaiobgkaa.Ent
open Go.RowKit Go.Proofs.Ytlhmemnaiobgkaa.Mem Go.Proofs.Ytlhmemnaiobgkaa.Laws Go.Proofs.Ytlhmemnaiobgkaa.Bytes Go.Proofs.Ytlhmemnaiobgkaa.Sha Go.Proofs.Ytlhmemnaiobgkaa.Ver Go.Proofs.Ytlhmemnaiobgkaa.Mod
set_option linter.unusedVariables false
set_option linter.unusedSimpArgs false

theorem fieldsN : Try.prog.underlying 32 = some (.struct (Try.prog.fieldsOf 32)) := by kernel_rfl
theorem heldN : Try.prog.stoodInHeld 32 = false := by kernel_rfl
theorem guardN : Try.prog.eqGuardType Try.prog.depth 32 = false := by kernel_rfl
theorem eqVs (w : World) (a1 b1 c1 : Int) (p1 : ByteArray) :
    (Op.equalIn 9999 29 (.agg #[.int .i64 a1, .int .i64 b1, .int .i64 c1, .string p1]) (.agg #[.int .i64 a1, .int .i64 b1, .int .i64 c1, .string p1])).run Try.prog w = .ok true w := by
  rw [run_equalIn_struct w 9998 _ _ _ fieldsV heldV]
  simp [Program.fieldsOf, Try.underlying29, Op.eqFields, go_sem, run_underlying Try.underlying3, run_underlying Try.underlying9, Try.underlying3, Try.underlying9, part]
theorem eqNs (w : World) (s : ByteArray) (a1 b1 c1 : Int) (p1 : ByteArray) :
    (Op.equalIn 10000 32 (.agg #[.string s, .int .i64 a1, .int .i64 b1, .int .i64 c1, .string p1]) (.agg #[.string s, .int .i64 a1, .int .i64 b1, .int .i64 c1, .string p1])).run Try.prog w = .ok true w := by
  rw [run_equalIn_struct w 9999 _ _ _ fieldsN heldN]
  simp [Program.fieldsOf, Try.underlying32, Op.eqFields, go_sem, run_underlying Try.underlying9, Try.underlying9, Try.underlying29, part, eqVs]
theorem neqNs (w : World) (s : ByteArray) (a1 b1 c1 : Int) (p1 : ByteArray) :
    (binOp .neq 32 (.agg #[.string s, .int .i64 a1, .int .i64 b1, .int .i64 c1, .string p1]) (.agg #[.string s, .int .i64 a1, .int .i64 b1, .int .i64 c1, .string p1])).run Try.prog w = .ok (.bool false) w := by
  rw [run_neq_struct, eqNs]
  rfl
theorem grdN (w : World) (op : BinOp) (x y : Operand) (xs ys : Array Value) : (eqGuard op 32 x y (.agg xs) (.agg ys)).run Try.prog w = .ok () w := run_eqGuard_agg w op 32 x y xs ys guardN

end Go.Proofs.Ytlhmemnaiobgkaa.Ent

/- Chapter 16, the specification's side: is a need in a row. -/
namespace Go.Proofs.Ytlhmemnaiobgkaa.Se
open Go.RowKit Go.Proofs.Ytlhmemnaiobgkaa.Mem Go.Proofs.Ytlhmemnaiobgkaa.Laws Go.Proofs.Ytlhmemnaiobgkaa.Ver Go.Proofs.Ytlhmemnaiobgkaa.Ent Go.Proofs.Ytlhmemnaiobgkaa.Fe
set_option linter.unusedVariables false
set_option linter.unusedSimpArgs false

theorem eqVin (w : World) (a1 b1 c1 : Int) (p1 : ByteArray) (a2 b2 c2 : Int) (p2 : ByteArray) :
    (Op.equalIn 9999 29 (.agg #[.int .i64 a1, .int .i64 b1, .int .i64 c1, .string p1]) (.agg #[.int .i64 a2, .int .i64 b2, .int .i64 c2, .string p2])).run Try.prog w = .ok (sameV a1 b1 c1 p1 a2 b2 c2 p2) w := by
  rw [run_equalIn_struct w 9998 _ _ _ fieldsV heldV]
  simp [Program.fieldsOf, Try.underlying29, Op.eqFields, go_sem, run_underlying Try.underlying3, run_underlying Try.underlying9, Try.underlying3, Try.underlying9, part]
  unfold sameV
  repeat' split
  all_goals simp_all
theorem eqNrun (w : World) (x q : Nd) :
    (Op.equalIn 10000 32 (.agg #[.string x.path, .int .i64 x.a, .int .i64 x.b, .int .i64 x.c, .string x.pre]) (.agg #[.string q.path, .int .i64 q.a, .int .i64 q.b, .int .i64 q.c, .string q.pre])).run Try.prog w = .ok (isN q x) w := by
  rw [run_equalIn_struct w 9999 _ _ _ fieldsN heldN]
  simp [Program.fieldsOf, Try.underlying32, Op.eqFields, go_sem, run_underlying Try.underlying9, Try.underlying9, Try.underlying29, part, eqVin]
  unfold isN
  cases h1 : (x.path.toList == q.path.toList) <;> cases h2 : sameV x.a x.b x.c x.pre q.a q.b q.c q.pre <;> simp_all
theorem eqlN (w : World) (x q : Nd) :
    (binOp .eql 32 (.agg #[.string x.path, .int .i64 x.a, .int .i64 x.b, .int .i64 x.c, .string x.pre]) (.agg #[.string q.path, .int .i64 q.a, .int .i64 q.b, .int .i64 q.c, .string q.pre])).run Try.prog w = .ok (.bool (isN q x)) w := by
  rw [run_eql_struct, eqNrun]
  rfl
theorem has16_hit {l : List Nd} {q x : Nd} {k : Nat} (h : l[k]? = some x) (he : isN q x = true) : has16 l q = true := by
  unfold has16
  rw [List.any_eq_true]
  exact ⟨x, List.mem_of_getElem? h, he⟩
theorem has16_none {l : List Nd} {q : Nd} (h : ∀ x ∈ l, isN q x = false) : has16 l q = false := by
  unfold has16
  rw [List.any_eq_false]
  intro x hx
  rw [h x hx]
  decide

set_option maxRecDepth 1000000 in
set_option maxHeartbeats 4000000 in
theorem has_spec (w : World) (v : Value) (l : List Nd) (q : Nd) (h : Sd w v l) (hl : l.length ≤ 1000000000000) :
    Calls Try.prog 53 #[v, .agg #[.string q.path, .int .i64 q.a, .int .i64 q.b, .int .i64 q.c, .string q.pre]] w fun e w' => e = .returned (.bool (has16 l q)) ∧ Below w.heap.size w w' := by
  have HS : Hid (Sd w v l) := h
  obtain ⟨_, ao, cap, rfl, hcap, _, _⟩ := h
  have B0 : Hid (Below w.heap.size w w) := Below.refl _ _
  obtain ⟨W1, HW1, b1, y1, hS1, r_q1⟩ := Ke.l1 w #[.string q.path, .int .i64 q.a, .int .i64 q.b, .int .i64 q.c, .string q.pre] 32
  have z1 := b1.size
  have B1 := Ke.b B0 b1
  have c_q1 := Ke.c r_q1
  go_enter Try.func53, Try.ntmps53
  go_wp2_with fail
  rw [HW1.out]
  go_loopw [5] (fun i wr => ∃ k : Nat, k ≤ l.length ∧ i = .int .i64 (k : Int) ∧ Hid (∀ x ∈ l.take k, isN q x = false) ∧ Hid (Below w.heap.size w wr) ∧ Hid (wr.heap[w.heap.size]? = some (.cells #[.string q.path, .int .i64 q.a, .int .i64 q.b, .int .i64 q.c, .string q.pre] 32 (0, 0)))) (fun i _ => l.length - (intOf i).toNat)
  case atStart => exact ⟨0, Nat.zero_le _, rfl, (fun x hx => by simp at hx), B1, r_q1⟩
  case round =>
    obtain ⟨k, hk, rfl, HN, B2, r_q2⟩ := hrel
    obtain ⟨W2, hW2⟩ : ∃ X, X = wr := ⟨_, rfl⟩
    subst hW2
    clear r_q1 c_q1
    have c_q2 := Ke.c r_q2
    by_cases hlt : k < l.length
    · have hlt2 : (k : Int) < (l.length : Int) := by omega
      obtain ⟨x, hx⟩ : ∃ x, l[k]? = some x := ⟨l[k], by simp [hlt]⟩
      obtain ⟨b, off, cap9, he, _, m0, m1, m2, m3, m4⟩ := Sd.at (HS.out.later B2.out) hx
      simp only [Value.slice.injEq] at he
      obtain ⟨rfl, _, rfl⟩ := he
      have HX : Hid (l[k]? = some x) := hx
      clear hx
      obtain ⟨V, hV⟩ : ∃ V, isN q x = V := ⟨_, rfl⟩
      have HI : Hid (isN q x = V) := hV
      have ev : ∀ W, _ := fun W => eqlN W x q
      simp only [hV] at ev
      have gv : ∀ W op y z xs ys, _ := fun W op y z xs ys => grdN W op y z xs ys
      clear hV
      go_wp2_with fail
      refine wp_region_held_drew (S := fun w' => w'.cell? ⟨w.heap.size, 0, none⟩ = some (.string q.path) ∧ w'.cell? ⟨w.heap.size, 1, none⟩ = some (.int .i64 q.a) ∧ w'.cell? ⟨w.heap.size, 2, none⟩ = some (.int .i64 q.b) ∧ w'.cell? ⟨w.heap.size, 3, none⟩ = some (.int .i64 q.c) ∧ w'.cell? ⟨w.heap.size, 4, none⟩ = some (.string q.pre) ∧ w'.cell? ⟨b, off + k * 5, none⟩ = some (.string x.path) ∧ w'.cell? ⟨b, off + k * 5 + 1, none⟩ = some (.int .i64 x.a) ∧ w'.cell? ⟨b, off + k * 5 + 2, none⟩ = some (.int .i64 x.b) ∧ w'.cell? ⟨b, off + k * 5 + 3, none⟩ = some (.int .i64 x.c) ∧ w'.cell? ⟨b, off + k * 5 + 4, none⟩ = some (.string x.pre)) (by kernel_rfl) ⟨(c_q2 0), (c_q2 1), (c_q2 2), (c_q2 3), (c_q2 4), m0, m1, m2, m3, m4⟩ (fun hHeld => ?_)
      refine Ke.y 0 rfl (fun _ _ _ h => h) ?_
      try simp only [Act.put, pu1, pu2, pu3, pu4, pu5, pu6]
      refine Ke.y 1 rfl (fun _ _ _ h => h) ?_
      try simp only [Act.put, pu1, pu2, pu3, pu4, pu5, pu6]
      refine Ke.y 2 rfl (fun _ _ _ h => h) ?_
      try simp only [Act.put, pu1, pu2, pu3, pu4, pu5, pu6]
      refine Ke.y 3 rfl (fun _ _ _ h => h) ?_
      try simp only [Act.put, pu1, pu2, pu3, pu4, pu5, pu6]
      refine Ke.y 4 rfl (fun _ _ _ h => h) ?_
      try simp only [Act.put, pu1, pu2, pu3, pu4, pu5, pu6]
      refine Ke.y 5 rfl (fun _ _ _ h => h) ?_
      try simp only [Act.put, pu1, pu2, pu3, pu4, pu5, pu6]
      refine wpAnyH_done (by kernel_rfl) ?_ _
      clear hHeld
      obtain ⟨W3, HW3, b3⟩ : ∃ X, Hid (W2.drew = X) ∧ Below W2.heap.size W2 X := ⟨_, rfl, Below.drew (Below.refl _ _)⟩
      rw [HW3.out]
      have z3 := b3.size
      have B3 := Ke.b B2 b3
      have r_q3 := Ke.r r_q2 b3
      have c_q3 := Ke.c r_q3
      clear r_q2 c_q2
      cases V
      · go_wp2
        go_roundw
        case rel => exact ⟨k + 1, by omega, by go_num, fun y hy => by rw [take_snoc15 HX.out] at hy; rcases List.mem_append.1 hy with h9 | h9; exact HN.out y h9; rw [List.mem_singleton.1 h9]; exact HI.out, B3, r_q3⟩
        case measure => simp [intOf]; omega
      · go_wp2
        go_ret
        exact ⟨by rw [has16_hit HX.out HI.out]; rfl, B3.out⟩
    · have hlt2 : ¬ (k : Int) < (l.length : Int) := by omega
      have HE : Hid (k = l.length) := by show _ = _; omega
      go_wp2
      go_ret
      exact ⟨by rw [has16_none (fun y hy => HN.out y (by rw [HE.out, List.take_length]; exact hy))]; rfl, B2.out⟩

end Go.Proofs.Ytlhmemnaiobgkaa.Se

/- Chapter 16, the specification's side: what is reached. -/
namespace Go.Proofs.Ytlhmemnaiobgkaa.Se
open Go.RowKit Go.Proofs.Ytlhmemnaiobgkaa.Mem Go.Proofs.Ytlhmemnaiobgkaa.Laws Go.Proofs.Ytlhmemnaiobgkaa.Ver Go.Proofs.Ytlhmemnaiobgkaa.Ent Go.Proofs.Ytlhmemnaiobgkaa.Fe
set_option linter.unusedVariables false
set_option linter.unusedSimpArgs false

theorem w_none {l : List Ev} {R : List Nd} {k f : Nat} {q : Nd} (h : R[k]? = some q) (hf : find15 q l = none) : walk16 l (f + 1) R k = ([], 2) := by
  rw [walk16]; simp only [h, hf]
theorem w_bad {l : List Ev} {R : List Nd} {k f : Nat} {q : Nd} {e : Ev} (h : R[k]? = some q) (hf : find15 q l = some e) (hb : entry5 e.n e.l = false) : walk16 l (f + 1) R k = ([], 2) := by
  rw [walk16]; simp only [h, hf, hb]; rfl
theorem w_many {l : List Ev} {R : List Nd} {k f : Nat} {q : Nd} {e : Ev} (h : R[k]? = some q) (hf : find15 q l = some e) (hb : entry5 e.n e.l = true) (ha : add16 R e.l = none) : walk16 l (f + 1) R k = ([], 3) := by
  rw [walk16]; simp only [h, hf, hb, ha]; rfl
theorem w_go {l : List Ev} {R T : List Nd} {k f : Nat} {q : Nd} {e : Ev} (h : R[k]? = some q) (hf : find15 q l = some e) (hb : entry5 e.n e.l = true) (ha : add16 R e.l = some T) : walk16 l (f + 1) R k = walk16 l f T (k + 1) := by
  rw [walk16]; simp only [h, hf, hb, ha]; rfl
theorem w_end {l : List Ev} {R : List Nd} {k f : Nat} (h : R.length ≤ k) : walk16 l (f + 1) R k = (R, 0) := by
  rw [walk16, List.getElem?_eq_none h]
theorem drop_cons16 {l : List Nd} {i : Nat} {n : Nd} (h : l[i]? = some n) : l.drop i = n :: l.drop (i + 1) := by
  obtain ⟨hi, he⟩ := List.getElem?_eq_some_iff.1 h
  rw [List.drop_eq_getElem_cons hi, he]
theorem add_has {l T : List Nd} {i : Nat} {n : Nd} (h : l[i]? = some n) (hT : T.length ≤ 60) (hh : has16 T n = true) : add16 T (l.drop i) = add16 T (l.drop (i + 1)) := by
  have hp : put16 T n = T := by unfold put16; rw [if_pos hh]
  rw [drop_cons16 h, add16, hp, if_neg (by omega)]
theorem add_new {l T : List Nd} {i : Nat} {n : Nd} (h : l[i]? = some n) (hT : T.length + 1 ≤ 60) (hh : has16 T n = false) : add16 T (l.drop i) = add16 (T ++ [n]) (l.drop (i + 1)) := by
  have hp : put16 T n = T ++ [n] := by unfold put16; rw [if_neg (by rw [hh]; decide)]
  rw [drop_cons16 h, add16, hp, if_neg (by simp; omega)]
theorem add_many {l T : List Nd} {i : Nat} {n : Nd} (h : l[i]? = some n) (hT : ¬ T.length + 1 ≤ 60) (hh : has16 T n = false) : add16 T (l.drop i) = none := by
  have hp : put16 T n = T ++ [n] := by unfold put16; rw [if_neg (by rw [hh]; decide)]
  rw [drop_cons16 h, add16, hp, if_pos (by simp; omega)]
theorem none_od {W W1 W2 : World} {lo : Nat} {v : Value} (o : Od W2 lo W1.heap.size v []) (h12 : W1.heap.size ≤ W2.heap.size) (d : Below W2.heap.size W2 W) : Od W lo W.heap.size v [] := On.mono (On.later o d h12) (Nat.le_refl _) (Nat.le_trans h12 d.size)

set_option maxRecDepth 1000000 in
set_option maxHeartbeats 8000000 in
theorem reach_spec (w : World) (v1 v2 : Value) (l : List Ev) (s : List Nd) (h1 : Se w v1 l) (h2 : Sd w v2 s) (hl : l.length ≤ 1000000000) (hs : s.length ≤ 1000000000) (hy1 : ∀ e ∈ l, e.n.path.size ≤ 1000000000000 ∧ e.n.pre.size ≤ 1000000000000 ∧ e.l.length ≤ 1000000000 ∧ ∀ x ∈ e.l, x.path.size ≤ 1000000000000 ∧ x.pre.size ≤ 1000000000000) (hy2 : ∀ x ∈ s, x.path.size ≤ 1000000000000 ∧ x.pre.size ≤ 1000000000000) :
    Calls Try.prog 35 #[v1, v2] w fun e w' => ∃ v', e = .returned (.tuple #[v', .int .i64 (reach16 l s).2]) ∧ Od w' w.heap.size w'.heap.size v' (reach16 l s).1 ∧ Below w.heap.size w w' := by
  obtain ⟨i0, hi, hz0, hz1, hz2⟩ := info_parts infoN
  have HS1 : Hid (Se w v1 l) := h1
  have HS2 : Hid (Sd w v2 s) := h2
  obtain ⟨ao, cap, rfl, hcap⟩ := h1.form
  obtain ⟨_, ao2, cap2, rfl, hcap2, _, _⟩ := h2
  clear h1
  obtain ⟨W1, HW1, b1, hs1, o1⟩ : ∃ X, Hid (w.alloc (.cells #[] 32) = X) ∧ Below w.heap.size w X ∧ X.heap.size = w.heap.size + 1 ∧ Hid (Od X w.heap.size X.heap.size (.slice (some ⟨w.heap.size, 0, none⟩) 0 0) []) := ⟨_, rfl, (Below.refl _ _).alloc (Nat.le_refl _) _, by simp, On.lit 5 w w.heap.size 32 (Nat.le_refl _)⟩
  have q0 := needs_spec W1 (.slice ao2 s.length cap2) s (HS2.out.later b1) (by omega) hy2
  obtain ⟨N0, hN0⟩ : ∃ N, needs5 s = N := ⟨_, rfl⟩
  rw [hN0] at q0
  have HN : Hid (needs5 s = N0) := hN0
  clear hN0
  go_enter Try.func35, Try.ntmps35
  go_wp2_with fail
  rw [HW1.out]
  refine q0.mono ?_
  rintro e W2 ⟨rfl, b2⟩
  clear q0
  have z2 := b2.size
  have B2 : Hid (Below w.heap.size w W2) := b1.trans (b2.mono b1.size)
  have o2 : Hid (Od W2 w.heap.size W1.heap.size (.slice (some ⟨w.heap.size, 0, none⟩) 0 0) []) := On.later o1.out b2 (Nat.le_refl _)
  clear b1 b2 o1
  cases N0
  · have HR : Hid (reach16 l s = ([], 1)) := by show _ = _; unfold reach16; rw [if_neg (by rw [HN.out]; decide)]
    go_wp2
    go_ret2
    exact ⟨_, by rw [HR.out]; rfl, by rw [HR.out]; exact none_od o2.out z2 (Below.refl _ _), B2.out⟩
  have hs20 := (needs_up HN.out).2
  have HR : Hid (walk16 l (61 - 0) s 0 = reach16 l s) := by show _ = _; unfold reach16; rw [if_pos HN.out]
  have sA : ∀ ob, Sn 5 (W2.alloc ob) (.slice ao2 s.length cap2) s.length (nds s) := fun ob => Sn.later HS2.out (B2.out.alloc B2.out.size _)
  have OL := On.lit 5 W2 W2.heap.size 32 (Nat.le_refl _)
  have k1 : 0 + s.length ≤ maxLen := by unfold maxLen; omega
  have k2 : (0 + s.length) * 56 ≤ 140737488355328 := by omega
  go_wp2_with (at_builtin; go_must (refine wpl_appn 5 (by omega) _ rfl (.tmp 16) (.tmp 17) 24 rfl 32 i0 (.agg #[.string ⟨#[]⟩, .int .i64 0, .int .i64 0, .int .i64 0, .string ⟨#[]⟩]) 56 Try.underlying24 hi hz0 hz1 hz2 rfl W2.heap.size _ 0 [] rfl OL _ rfl s.length (nds s) (sA _) (nds_one s) k1 k2 (by simp) ?_))
  intro v3 W3 o3 b3 _
  have o3 : Hid (Od W3 W2.heap.size W3.heap.size v3 s) := o3
  have D3 : Hid (Below W2.heap.size W2 W3) := ((Below.refl _ _).alloc (Nat.le_refl _) _).trans b3
  clear b3 sA OL
  go_wp2_with fail
  go_loopw [7, 8] (fun rv iv wr => ∃ (k : Nat) (R : List Nd), iv = .int .i64 (k : Int) ∧ k ≤ R.length ∧ R.length ≤ 60 ∧ Hid (walk16 l (61 - k) R k = reach16 l s) ∧ Hid (Od wr W2.heap.size wr.heap.size rv R) ∧ Hid (Below W2.heap.size W2 wr)) (fun _ iv _ => 61 - (intOf iv).toNat)
  case atStart => exact ⟨0, s, rfl, Nat.zero_le _, by omega, HR, o3, D3⟩
  case round =>
    obtain ⟨k, R, rfl, hk, hR, HK, HO, D4⟩ := hrel
    obtain ⟨W4, hW4⟩ : ∃ X, X = wr := ⟨_, rfl⟩
    subst hW4
    clear HR o3 D3 k1 k2
    have B4 : Hid (Below w.heap.size w W4) := B2.out.trans (D4.out.mono B2.out.size)
    obtain ⟨aoR, capR, hrv⟩ := on_slice5 HO.out
    subst hrv
    by_cases hlt : k < R.length
    · have hlt2 : (k : Int) < (R.length : Int) := by omega
      obtain ⟨x, hx⟩ : ∃ x, R[k]? = some x := ⟨R[k], by simp [hlt]⟩
      obtain ⟨b, off, cap9, he, _, m0, m1, m2, m3, m4⟩ := Sd.at HO.out.sd hx
      simp only [Value.slice.injEq] at he
      obtain ⟨rfl, _, rfl⟩ := he
      have HX : Hid (R[k]? = some x) := hx
      clear hx
      have HK : Hid (walk16 l ((60 - k) + 1) R k = reach16 l s) := by have h9 := HK.out; rw [show 61 - k = (60 - k) + 1 by omega] at h9; exact h9
      have q1 : ∀ W, Below w.heap.size w W → _ := fun W hW => at15_spec W _ l x (HS1.out.later hW) (by omega)
      rcases at15_find x l 0 with ⟨f1, f2⟩ | ⟨m, y, f1, f2, f3⟩
      · simp only [f1] at q1
        have HF : Hid (reach16 l s = ([], 2)) := HK.out.symm.trans (w_none HX.out f2)
        clear f1 f2
        go_wp2_with fail
        refine wp_region_held_drew (S := fun w' => w'.cell? ⟨b, off + k * 5, none⟩ = some (.string x.path) ∧ w'.cell? ⟨b, off + k * 5 + 1, none⟩ = some (.int .i64 x.a) ∧ w'.cell? ⟨b, off + k * 5 + 2, none⟩ = some (.int .i64 x.b) ∧ w'.cell? ⟨b, off + k * 5 + 3, none⟩ = some (.int .i64 x.c) ∧ w'.cell? ⟨b, off + k * 5 + 4, none⟩ = some (.string x.pre)) (by kernel_rfl) ⟨m0, m1, m2, m3, m4⟩ (fun hHeld => ?_)
        obtain ⟨W5, HW5, b5⟩ : ∃ X, Hid (W4.drew = X) ∧ Below W4.heap.size W4 X := ⟨_, rfl, Below.drew (Below.refl _ _)⟩
        have HHW5 := HW5.out
        rw [HHW5] at hHeld ⊢
        clear HHW5
        have z5 := b5.size
        have B5 := Ke.b B4 b5
        refine Ke.y 0 rfl (fun _ _ _ h => h) ?_
        try simp only [Act.put, pu1, pu2, pu3, pu4, pu5, pu6]
        refine Ke.y 1 rfl (fun _ _ _ h => h) ?_
        try simp only [Act.put, pu1, pu2, pu3, pu4, pu5, pu6]
        refine Ke.y 2 rfl (fun _ _ _ h => h) ?_
        try simp only [Act.put, pu1, pu2, pu3, pu4, pu5, pu6]
        refine Ke.y 3 rfl (fun _ _ _ h => h) ?_
        try simp only [Act.put, pu1, pu2, pu3, pu4, pu5, pu6]
        refine Ke.y 4 rfl (fun _ _ _ h => h) ?_
        try simp only [Act.put, pu1, pu2, pu3, pu4, pu5, pu6]
        refine Ke.y 5 rfl (fun _ _ _ h => h) ?_
        try simp only [Act.put, pu1, pu2, pu3, pu4, pu5, pu6]
        refine Ke.y 6 rfl (fun _ _ _ h => h) ?_
        try simp only [Act.put, pu1, pu2, pu3, pu4, pu5, pu6]
        refine Ke.y 7 rfl (fun _ _ _ h => h) ?_
        try simp only [Act.put, pu1, pu2, pu3, pu4, pu5, pu6]
        refine Ke.y 8 rfl (fun _ _ _ h => h) ?_
        try simp only [Act.put, pu1, pu2, pu3, pu4, pu5, pu6]
        refine Ke.y 9 rfl (fun _ _ _ h => h) ?_
        try simp only [Act.put, pu1, pu2, pu3, pu4, pu5, pu6]
        refine Ke.y 10 rfl (fun _ _ _ h => h) ?_
        try simp only [Act.put, pu1, pu2, pu3, pu4, pu5, pu6]
        refine Ke.z 11 rfl (fun K hK => ?_)
        go_simp
        refine (q1 W5 B5.out).mono ?_
        rintro e W6 ⟨rfl, b6⟩
        refine hK.out _ _ ⟨(keepR (W := W5) hHeld.1 b6), (keepR (W := W5) hHeld.2.1 b6), (keepR (W := W5) hHeld.2.2.1 b6), (keepR (W := W5) hHeld.2.2.2.1 b6), (keepR (W := W5) hHeld.2.2.2.2 b6)⟩ (fun hHeld => ?_)
        clear hK K
        try simp only [Act.put, pu1, pu2, pu3, pu4, pu5, pu6]
        have z6 := b6.size
        have B6 := Ke.b B5 b6
        refine Ke.y 12 rfl (fun _ _ _ h => h) ?_
        try simp only [Act.put, pu1, pu2, pu3, pu4, pu5, pu6]
        refine wpAnyH_done (by kernel_rfl) ?_ _
        clear hHeld
        have bw : Below W4.heap.size W4 W6 := b5.trans (b6.mono b5.size)
        have D6 := Ke.b D4 bw
        have HO6 : Hid (Od W6 W2.heap.size W6.heap.size _ R) := Od.up HO.out bw
        clear HO bw D4 m0 m1 m2 m3 m4 q1
        go_wp2
        go_ret2
        exact ⟨_, by rw [HF.out]; rfl, by rw [HF.out]; exact none_od o2.out z2 D6.out, B6.out⟩
      · simp only [f1, Nat.zero_add] at q1
        have HF : Hid (find15 x l = some y) := f3
        have hm : m < l.length := (List.getElem?_eq_some_iff.1 f2).1
        have hm2 : (m : Int) < (l.length : Int) := by omega
        have hm3 : ¬ (m : Int) < 0 := by omega
        have HY : Hid (l[m]? = some y) := f2
        obtain ⟨hya, hyb, hyc, hyd⟩ := hy1 y (List.mem_of_getElem? f2)
        clear f1 f2 f3
        go_wp2_with fail
        refine wp_region_held_drew (S := fun w' => w'.cell? ⟨b, off + k * 5, none⟩ = some (.string x.path) ∧ w'.cell? ⟨b, off + k * 5 + 1, none⟩ = some (.int .i64 x.a) ∧ w'.cell? ⟨b, off + k * 5 + 2, none⟩ = some (.int .i64 x.b) ∧ w'.cell? ⟨b, off + k * 5 + 3, none⟩ = some (.int .i64 x.c) ∧ w'.cell? ⟨b, off + k * 5 + 4, none⟩ = some (.string x.pre)) (by kernel_rfl) ⟨m0, m1, m2, m3, m4⟩ (fun hHeld => ?_)
        obtain ⟨W5, HW5, b5⟩ : ∃ X, Hid (W4.drew = X) ∧ Below W4.heap.size W4 X := ⟨_, rfl, Below.drew (Below.refl _ _)⟩
        have HHW5 := HW5.out
        rw [HHW5] at hHeld ⊢
        clear HHW5
        have z5 := b5.size
        have B5 := Ke.b B4 b5
        refine Ke.y 0 rfl (fun _ _ _ h => h) ?_
        try simp only [Act.put, pu1, pu2, pu3, pu4, pu5, pu6]
        refine Ke.y 1 rfl (fun _ _ _ h => h) ?_
        try simp only [Act.put, pu1, pu2, pu3, pu4, pu5, pu6]
        refine Ke.y 2 rfl (fun _ _ _ h => h) ?_
        try simp only [Act.put, pu1, pu2, pu3, pu4, pu5, pu6]
        refine Ke.y 3 rfl (fun _ _ _ h => h) ?_
        try simp only [Act.put, pu1, pu2, pu3, pu4, pu5, pu6]
        refine Ke.y 4 rfl (fun _ _ _ h => h) ?_
        try simp only [Act.put, pu1, pu2, pu3, pu4, pu5, pu6]
        refine Ke.y 5 rfl (fun _ _ _ h => h) ?_
        try simp only [Act.put, pu1, pu2, pu3, pu4, pu5, pu6]
        refine Ke.y 6 rfl (fun _ _ _ h => h) ?_
        try simp only [Act.put, pu1, pu2, pu3, pu4, pu5, pu6]
        refine Ke.y 7 rfl (fun _ _ _ h => h) ?_
        try simp only [Act.put, pu1, pu2, pu3, pu4, pu5, pu6]
        refine Ke.y 8 rfl (fun _ _ _ h => h) ?_
        try simp only [Act.put, pu1, pu2, pu3, pu4, pu5, pu6]
        refine Ke.y 9 rfl (fun _ _ _ h => h) ?_
        try simp only [Act.put, pu1, pu2, pu3, pu4, pu5, pu6]
        refine Ke.y 10 rfl (fun _ _ _ h => h) ?_
        try simp only [Act.put, pu1, pu2, pu3, pu4, pu5, pu6]
        refine Ke.z 11 rfl (fun K hK => ?_)
        go_simp
        refine (q1 W5 B5.out).mono ?_
        rintro e W6 ⟨rfl, b6⟩
        refine hK.out _ _ ⟨(keepR (W := W5) hHeld.1 b6), (keepR (W := W5) hHeld.2.1 b6), (keepR (W := W5) hHeld.2.2.1 b6), (keepR (W := W5) hHeld.2.2.2.1 b6), (keepR (W := W5) hHeld.2.2.2.2 b6)⟩ (fun hHeld => ?_)
        clear hK K
        try simp only [Act.put, pu1, pu2, pu3, pu4, pu5, pu6]
        have z6 := b6.size
        have B6 := Ke.b B5 b6
        refine Ke.y 12 rfl (fun _ _ _ h => h) ?_
        try simp only [Act.put, pu1, pu2, pu3, pu4, pu5, pu6]
        refine wpAnyH_done (by kernel_rfl) ?_ _
        clear hHeld
        have bw : Below W4.heap.size W4 W6 := b5.trans (b6.mono b5.size)
        have D6 := Ke.b D4 bw
        have HO6 : Hid (Od W6 W2.heap.size W6.heap.size _ R) := Od.up HO.out bw
        clear HO bw D4 m0 m1 m2 m3 m4 q1
        obtain ⟨b_, off_, cap8, he, _, p0, p1, p2, p3, p4, p5, hsd⟩ := Se.at (HS1.out.later B2.out) HY.out
        simp only [Value.slice.injEq] at he
        obtain ⟨rfl, _, rfl⟩ := he
        have HSD : Hid (Sd W2 y.u y.l) := hsd
        obtain ⟨_, aoU, capU, hu, hcapU, _, _⟩ := hsd
        rw [hu] at p5
        obtain ⟨E, hE⟩ : ∃ E, entry5 y.n y.l = E := ⟨_, rfl⟩
        have q2 := entryok_spec W6 y.n y.u y.l (HSD.out.later D6.out) (by omega) hya hyb hyd
        rw [hu, hE] at q2
        have HE5 : Hid (entry5 y.n y.l = E) := hE
        have HU : Hid (y.u = .slice aoU y.l.length capU) := hu
        clear hE hu
        have s0 := keepR p0 D6.out
        have s1 := keepR p1 D6.out
        have s2 := keepR p2 D6.out
        have s3 := keepR p3 D6.out
        have s4 := keepR p4 D6.out
        have s5 := keepR p5 D6.out
        go_wp2_with fail
        refine q2.mono ?_
        rintro e W7 ⟨rfl, b7⟩
        clear q2 s0 s1 s2 s3 s4 s5
        have B7 := Ke.b B6 b7
        have D7 := Ke.b D6 b7
        have HO7 : Hid (Od W7 W2.heap.size W7.heap.size _ R) := Od.up HO6.out b7
        clear HO6 D6 b7
        cases E
        · have HF2 : Hid (reach16 l s = ([], 2)) := HK.out.symm.trans (w_bad HX.out HF.out HE5.out)
          go_wp2
          go_ret2
          exact ⟨_, by rw [HF2.out]; rfl, by rw [HF2.out]; exact none_od o2.out z2 D7.out, B7.out⟩
        · go_wp2_with fail
          go_loopw [7, 10] (fun rv mv wr => ∃ (i : Nat) (T : List Nd), mv = .int .i64 (i : Int) ∧ i ≤ y.l.length ∧ R.length ≤ T.length ∧ T.length ≤ 60 ∧ Hid (add16 T (y.l.drop i) = add16 R y.l) ∧ Hid (Od wr W2.heap.size wr.heap.size rv T) ∧ Hid (Below W2.heap.size W2 wr)) (fun _ mv _ => y.l.length - (intOf mv).toNat)
          case atStart => exact ⟨0, R, rfl, Nat.zero_le _, Nat.le_refl _, hR, rfl, HO7, D7⟩
          case round =>
            obtain ⟨i, T, rfl, hiy, hRT, hT, HA, HT, D8⟩ := hrel
            obtain ⟨W8, hW8⟩ : ∃ X, X = wr := ⟨_, rfl⟩
            subst hW8
            clear HO7 D7 B7 B6 B4
            have B8 : Hid (Below w.heap.size w W8) := B2.out.trans (D8.out.mono B2.out.size)
            obtain ⟨aoT, capT, hrv⟩ := on_slice5 HT.out
            subst hrv
            have s5 := keepR p5 D8.out
            by_cases hit : i < y.l.length
            · have hit2 : (i : Int) < (y.l.length : Int) := by omega
              obtain ⟨n, hn⟩ : ∃ n, y.l[i]? = some n := ⟨y.l[i], by simp [hit]⟩
              obtain ⟨b3, off3, cap7, he, _, t0, t1, t2, t3, t4⟩ := Sd.at HSD.out hn
              rw [HU.out] at he
              simp only [Value.slice.injEq] at he
              obtain ⟨rfl, _, rfl⟩ := he
              have HNN : Hid (y.l[i]? = some n) := hn
              clear hn
              have u0 := keepR t0 D8.out
              have u1 := keepR t1 D8.out
              have u2 := keepR t2 D8.out
              have u3 := keepR t3 D8.out
              have u4 := keepR t4 D8.out
              obtain ⟨V, hV⟩ : ∃ V, has16 T n = V := ⟨_, rfl⟩
              have q3 := has_spec W8 _ T n HT.out.sd (by omega)
              rw [hV] at q3
              have HV : Hid (has16 T n = V) := hV
              clear hV
              go_wp2_with fail
              refine q3.mono ?_
              rintro e W9 ⟨rfl, b9⟩
              clear q3
              have D9 := Ke.b D8 b9
              have B9 := Ke.b B8 b9
              have HT9 : Hid (Od W9 W2.heap.size W9.heap.size _ T) := Od.up HT.out b9
              have hT60 : ¬ (60 : Int) < (T.length : Int) := by omega
              clear HT D8 b9 B8 s5 u0 u1 u2 u3 u4
              cases V
              · have u0 := keepR t0 D9.out
                have u1 := keepR t1 D9.out
                have u2 := keepR t2 D9.out
                have u3 := keepR t3 D9.out
                have u4 := keepR t4 D9.out
                have s5 := keepR p5 D9.out
                have k1 : T.length + 1 ≤ maxLen := by unfold maxLen; omega
                have k2 : (T.length + 1) * 56 ≤ 140737488355328 := by omega
                have k3 : ∀ ob, W2.heap.size ≤ (W9.alloc ob).heap.size := fun ob => by have := D9.out.size; simp; omega
                have O2 : ∀ ob, On 5 (W9.alloc ob) W2.heap.size (W9.alloc ob).heap.size 32 _ T.length (nds T) := fun ob => On.alloc HT9.out ob
                go_wp2_with (at_builtin; go_must (refine wpl_appn 5 (by omega) _ rfl (.tmp 69) (.tmp 78) 24 rfl 32 i0 (.agg #[.string ⟨#[]⟩, .int .i64 0, .int .i64 0, .int .i64 0, .string ⟨#[]⟩]) 56 Try.underlying24 hi hz0 hz1 hz2 rfl W2.heap.size _ T.length (nds T) rfl (O2 _) _ rfl 1 n.cs (Sn.one 5 W9 (nc n) 32 rfl) (cs_oneN n) k1 k2 (k3 _) ?_))
                intro v0 W0 o0 b0 _
                have HO0 : Hid (Od W0 W2.heap.size W0.heap.size v0 (T ++ [n])) := Od.snoc o0
                have D0 : Hid (Below W2.heap.size W2 W0) := (D9.out.alloc D9.out.size _).trans b0
                have B0 : Hid (Below w.heap.size w W0) := B2.out.trans (D0.out.mono B2.out.size)
                clear O2 b0 u0 u1 u2 u3 u4 s5
                obtain ⟨ao0, cap0, hrv⟩ := on_slice5 o0
                subst hrv
                clear o0
                by_cases h60 : T.length + 1 ≤ 60
                · have h61 : ¬ (60 : Int) < ((T.length + 1 : Nat) : Int) := by omega
                  go_wp2
                  go_roundw
                  case rel => exact ⟨i + 1, T ++ [n], by go_num, by omega, by simp; omega, by simp; omega, (add_new HNN.out h60 HV.out).symm.trans HA.out, HO0, D0⟩
                  case measure => simp [intOf]; omega
                · have h61 : (60 : Int) < ((T.length + 1 : Nat) : Int) := by omega
                  have HF2 : Hid (reach16 l s = ([], 3)) := HK.out.symm.trans (w_many HX.out HF.out HE5.out (HA.out.symm.trans (add_many HNN.out h60 HV.out)))
                  go_wp2
                  go_ret2
                  exact ⟨_, by rw [HF2.out]; rfl, by rw [HF2.out]; exact none_od o2.out z2 D0.out, B0.out⟩
              · go_wp2
                go_roundw
                case rel => exact ⟨i + 1, T, by go_num, by omega, hRT, hT, (add_has HNN.out hT HV.out).symm.trans HA.out, HT9, D9⟩
                case measure => simp [intOf]; omega
            · have hit2 : ¬ (i : Int) < (y.l.length : Int) := by omega
              have HAA : Hid (add16 R y.l = some T) := by have h9 := HA.out; rw [List.drop_of_length_le (by omega)] at h9; exact h9.symm
              go_wp2
              go_roundw
              case rel => exact ⟨k + 1, T, by go_num, by omega, hT, by show _ = _; rw [show 61 - (k + 1) = 60 - k by omega, ← w_go HX.out HF.out HE5.out HAA.out]; exact HK.out, HT, D8⟩
              case measure => simp [intOf]; omega
    · have hlt2 : ¬ (k : Int) < (R.length : Int) := by omega
      have HF : Hid (reach16 l s = (R, 0)) := by have h9 := HK.out; rw [show 61 - k = (60 - k) + 1 by omega, w_end (by omega)] at h9; exact h9.symm
      go_wp2
      go_ret2
      exact ⟨_, by rw [HF.out]; rfl, by rw [HF.out]; exact On.mono HO.out B2.out.size (Nat.le_refl _), B4.out⟩

end Go.Proofs.Ytlhmemnaiobgkaa.Se

/- Chapter 16, the specification's side: Select. -/
namespace Go.Proofs.Ytlhmemnaiobgkaa.Se
open Go.RowKit Go.Proofs.Ytlhmemnaiobgkaa.Mem Go.Proofs.Ytlhmemnaiobgkaa.Laws Go.Proofs.Ytlhmemnaiobgkaa.Ver Go.Proofs.Ytlhmemnaiobgkaa.Ent Go.Proofs.Ytlhmemnaiobgkaa.Fe
set_option linter.unusedVariables false
set_option linter.unusedSimpArgs false

theorem ins_len (l : List Nd) (n : Nd) : (insN l n).length ≤ l.length + 1 := by
  have htd : (l.takeWhile (lts n)).length + (l.dropWhile (lts n)).length = l.length := by rw [← List.length_append, List.takeWhile_append_dropWhile]
  have := List.length_filter_le (nes n) (l.dropWhile (lts n))
  rw [ins_form]
  simp
  omega
theorem max_len (l : List Nd) (n : Nd) : (max16 l n).length ≤ l.length + 1 := by
  unfold max16
  split
  · omega
  · exact ins_len l n
theorem max_mem {l : List Nd} {n x : Nd} (h : x ∈ max16 l n) : x ∈ l ∨ x = n := by
  unfold max16 at h
  split at h
  · exact .inl h
  · rcases ins_mem h with h | h
    · exact .inr h
    · exact .inl h
theorem sel_fold_len : ∀ (r l : List Nd), (r.foldl max16 l).length ≤ l.length + r.length := by
  intro r
  induction r with
  | nil => intro l; simp
  | cons n r ih =>
    intro l
    have h1 := ih (max16 l n)
    have h2 := max_len l n
    rw [List.foldl_cons]
    simp only [List.length_cons]
    omega
theorem sel_len (r : List Nd) : (sel16 r).length ≤ r.length := by
  have := sel_fold_len r []
  simpa [sel16] using this
theorem sel_fold_mem : ∀ (r l : List Nd) (x : Nd), x ∈ r.foldl max16 l → x ∈ l ∨ x ∈ r := by
  intro r
  induction r with
  | nil => intro l x h; exact .inl h
  | cons n r ih =>
    intro l x h
    rw [List.foldl_cons] at h
    rcases ih _ _ h with h | h
    · rcases max_mem h with h | rfl
      · exact .inl h
      · exact .inr (by simp)
    · exact .inr (by simp [h])
theorem sel_mem {r : List Nd} {x : Nd} (h : x ∈ sel16 r) : x ∈ r := by
  rcases sel_fold_mem r [] x h with h | h
  · cases h
  · exact h
theorem sel_snoc {r : List Nd} {k : Nat} {q : Nd} (h : r[k]? = some q) : sel16 (r.take (k + 1)) = max16 (sel16 (r.take k)) q := by
  rw [take_snoc15 h]
  unfold sel16
  rw [List.foldl_append]
  rfl
theorem reach_size {l : List Ev} {s : List Nd} {D : Nd → Prop} (h1 : ∀ q ∈ s, D q) (h2 : ∀ e ∈ l, ∀ n ∈ e.l, D n) : (reach16 l s).1.length ≤ 60 ∧ ∀ x ∈ (reach16 l s).1, D x := by
  rcases reach16_code l s with h | ⟨h, _⟩
  · have := reach_rch h
    exact ⟨this.len, this.all h1 h2⟩
  · rw [h]; exact ⟨by simp, fun x hx => (List.not_mem_nil hx).elim⟩

set_option maxRecDepth 1000000 in
set_option maxHeartbeats 8000000 in
theorem select_spec (w : World) (v1 v2 : Value) (l : List Ev) (s : List Nd) (h1 : Se w v1 l) (h2 : Sd w v2 s) (hl : l.length ≤ 1000000000) (hs : s.length ≤ 1000000000) (hy1 : ∀ e ∈ l, e.n.path.size ≤ 1000000000000 ∧ e.n.pre.size ≤ 1000000000000 ∧ e.l.length ≤ 1000000000 ∧ ∀ x ∈ e.l, x.path.size ≤ 1000000000000 ∧ x.pre.size ≤ 1000000000000) (hy2 : ∀ x ∈ s, x.path.size ≤ 1000000000000 ∧ x.pre.size ≤ 1000000000000) :
    Calls Try.prog 23 #[v1, v2] w fun e w' => ∃ v', e = .returned (.tuple #[v', .int .i64 (select16 l s).2]) ∧ Od w' w.heap.size w'.heap.size v' (select16 l s).1 ∧ Below w.heap.size w w' := by
  obtain ⟨hR60, hRz⟩ := reach_size (l := l) (s := s) (D := fun x => x.path.size ≤ 1000000000000 ∧ x.pre.size ≤ 1000000000000) hy2 (fun e he n hn => (hy1 e he).2.2.2 n hn)
  have q1 := reach_spec w v1 v2 l s h1 h2 hl hs hy1 hy2
  have e1 : (select16 l s).1 = sel16 (reach16 l s).1 := rfl
  have e2 : (select16 l s).2 = (reach16 l s).2 := rfl
  rw [e1, e2]
  clear e1 e2
  obtain ⟨R, hR⟩ : ∃ R, (reach16 l s).1 = R := ⟨_, rfl⟩
  obtain ⟨c, hc⟩ : ∃ c, (reach16 l s).2 = c := ⟨_, rfl⟩
  rw [hR] at hR60 hRz
  simp only [hR, hc] at q1 ⊢
  clear hR hc h1 h2
  have HRZ : Hid (∀ x ∈ R, x.path.size ≤ 1000000000000 ∧ x.pre.size ≤ 1000000000000) := hRz
  clear hRz
  go_enter Try.func23, Try.ntmps23
  go_wp2_with fail
  refine q1.mono ?_
  rintro e W1 ⟨v3, rfl, o1, b1⟩
  clear q1
  have O1 : Hid (Od W1 w.heap.size W1.heap.size v3 R) := o1
  have B1 : Hid (Below w.heap.size w W1) := b1
  obtain ⟨aoR, capR, hrv⟩ := on_slice5 o1
  subst hrv
  clear o1 b1
  have OL : Hid (Od (W1.alloc (.cells #[] 32)) W1.heap.size (W1.alloc (.cells #[] 32)).heap.size (.slice (some ⟨W1.heap.size, 0, none⟩) 0 0) []) := On.lit 5 W1 W1.heap.size 32 (Nat.le_refl _)
  have DL : Hid (Below W1.heap.size W1 (W1.alloc (.cells #[] 32))) := (Below.refl _ _).alloc (Nat.le_refl _) _
  go_wp2_with fail
  go_loopw [8, 9] (fun ov iv wr => ∃ (k : Nat), iv = .int .i64 (k : Int) ∧ k ≤ R.length ∧ Hid (Od wr W1.heap.size wr.heap.size ov (sel16 (R.take k))) ∧ Hid (Below W1.heap.size W1 wr)) (fun _ iv _ => R.length - (intOf iv).toNat)
  case atStart => exact ⟨0, rfl, Nat.zero_le _, OL, DL⟩
  case round =>
    obtain ⟨k, rfl, hk, HO, D2⟩ := hrel
    obtain ⟨W2, hW2⟩ : ∃ X, X = wr := ⟨_, rfl⟩
    subst hW2
    clear OL DL
    have B2 : Hid (Below w.heap.size w W2) := B1.out.trans (D2.out.mono B1.out.size)
    by_cases hlt : k < R.length
    · have hlt2 : (k : Int) < (R.length : Int) := by omega
      obtain ⟨q, hq⟩ : ∃ q, R[k]? = some q := ⟨R[k], by simp [hlt]⟩
      obtain ⟨b, off, cap9, he, _, m0, m1, m2, m3, m4⟩ := Sd.at O1.out.sd hq
      simp only [Value.slice.injEq] at he
      obtain ⟨rfl, _, rfl⟩ := he
      have HQ : Hid (R[k]? = some q) := hq
      have hqz := (HRZ.out q (List.mem_of_getElem? hq)).2
      clear hq
      have u0 := keepR m0 D2.out
      have u1 := keepR m1 D2.out
      have u2 := keepR m2 D2.out
      have u3 := keepR m3 D2.out
      have u4 := keepR m4 D2.out
      clear m0 m1 m2 m3 m4
      obtain ⟨T, hT⟩ : ∃ T, sel16 (R.take k) = T := ⟨_, rfl⟩
      have hTl : T.length ≤ 60 := by have := sel_len (R.take k); rw [hT] at this; simp at this; omega
      have hTz : ∀ x ∈ T, x.pre.size ≤ 1000000000000 := fun x hx => by rw [← hT] at hx; exact (HRZ.out x (List.mem_of_mem_take (sel_mem hx))).2
      have HT : Hid (sel16 (R.take (k + 1)) = max16 T q) := by show _ = _; rw [sel_snoc HQ.out, hT]
      have h9 := HO.out
      rw [hT] at h9
      obtain ⟨aoT, capT, hrv⟩ := on_slice5 h9
      subst hrv
      have HO2 : Hid (Od W2 W1.heap.size W2.heap.size (.slice aoT T.length capT) T) := h9
      clear HO hT h9
      have q2 := max_spec W2 (.slice aoT T.length capT) T q HO2.out.sd (by omega) hTz hqz
      go_wp2_with fail
      refine q2.mono ?_
      rintro e W3 ⟨v4, rfl, o4, b4⟩
      clear q2 u0 u1 u2 u3 u4
      have HO3 : Hid (Od W3 W1.heap.size W3.heap.size v4 (max16 T q)) := by
        rcases o4 with ⟨h8, h9⟩ | h9
        · rw [h8, h9]; exact Od.up HO2.out b4
        · exact On.mono h9 D2.out.size (Nat.le_refl _)
      have D3 : Hid (Below W1.heap.size W1 W3) := D2.out.trans (b4.mono D2.out.size)
      clear o4 b4
      go_wp2
      go_roundw
      case rel => exact ⟨k + 1, by go_num, by omega, by rw [HT.out]; exact HO3, D3⟩
      case measure => simp [intOf]; omega
    · have hlt2 : ¬ (k : Int) < (R.length : Int) := by omega
      have HE : Hid (k = R.length) := by show _ = _; omega
      go_wp2
      go_ret2
      exact ⟨_, rfl, by have h9 := HO.out; rw [HE.out, List.take_length] at h9; exact On.mono h9 B1.out.size (Nat.le_refl _), B2.out⟩

end Go.Proofs.Ytlhmemnaiobgkaa.Se

/- Chapter 16, draws: entries, and what is wanted or selected of them. -/
namespace Go.Proofs.Ytlhmemnaiobgkaa.Se
open Go.RowKit Go.Proofs.Ytlhmemnaiobgkaa.Mem Go.Proofs.Ytlhmemnaiobgkaa.Laws Go.Proofs.Ytlhmemnaiobgkaa.Bytes Go.Proofs.Ytlhmemnaiobgkaa.Ver Go.Proofs.Ytlhmemnaiobgkaa.Ent Go.Proofs.Ytlhmemnaiobgkaa.Fe Go.Proofs.Ytlhmemnaiobgkaa.Draw
set_option linter.unusedVariables false
set_option linter.unusedSimpArgs false

theorem Dy.fits {T : List Ev} (h : ∀ x ∈ T, Dy x) : ∀ e ∈ T, e.n.path.size ≤ 1000000000000 ∧ e.n.pre.size ≤ 1000000000000 ∧ e.l.length ≤ 1000000000 ∧ ∀ x ∈ e.l, x.path.size ≤ 1000000000000 ∧ x.pre.size ≤ 1000000000000 := by
  intro e he
  obtain ⟨h1, h2, h3⟩ := h e he
  have h4 := Dn.size h1
  exact ⟨by omega, by omega, by omega, fun x hx => by have := Dn.size (h3 x hx); omega⟩
theorem Wnt.dq {T : List Ev} {R : List Nd} (h : Wnt T R) (hT : ∀ x ∈ T, Dy x) : ∀ n ∈ R, Dq n := by
  intro n hn
  obtain ⟨x, hx, rfl⟩ := h.sub n hn
  exact (hT x hx).1
theorem select_dq {T : List Ev} {R : List Nd} (hT : ∀ x ∈ T, Dy x) (hR : ∀ n ∈ R, Dq n) : ∀ n ∈ (select16 T R).1, Dq n := fun n hn =>
  (reach_size (D := Dq) hR (fun e he m hm => (hT e he).2.2 m hm)).2 n (sel_mem hn)
theorem select_sz (T : List Ev) (R : List Nd) : (select16 T R).1.length ≤ 60 := Nat.le_trans (sel_len _) (reach_size (l := T) (s := R) (D := fun _ => True) (fun _ _ => trivial) (fun _ _ _ _ => trivial)).1

set_option maxRecDepth 1000000 in
set_option maxHeartbeats 8000000 in
theorem drawClosed_any (w : World) (vb : Value) (xs : List Int) (hs : Sl w vb (bs xs)) (hby : Byt xs) (hx : xs.length ≤ 140737488355328) :
    Calls Try.prog 10 #[vb] w fun e w' => ∃ (v v2 : Value) (T : List Ev) (s : List Nd), e = .returned (.tuple #[v, v2]) ∧ 1 ≤ T.length ∧ T.length ≤ 8 ∧ (∀ x ∈ T, Dy x) ∧ s.length ≤ 60 ∧ (∀ n ∈ s, Dq n) ∧ Se w' v T ∧ Sd w' v2 s ∧ Below w.heap.size w w' := by
  have HSL : Hid (Sl w vb (bs xs)) := hs
  clear hs
  have B0 : Hid (Below w.heap.size w w) := Below.refl _ _
  go_enter Try.func10, Try.ntmps10
  go_wp2_with fail
  refine (new_any w _ xs (HSL.out.later B0.out) hby hx).mono ?_
  rintro e W1 ⟨rfl, d1⟩
  have hcg : w.heap.size < W1.heap.size := d1.cur.lt
  have HSW : Hid (Sl w vb (bs xs)) := (HSL.out.later B0.out)
  have cu0 : Hid True := trivial
  have bw0 : Hid True := trivial
  have z1 := d1.apart.size
  have B1 : Hid (Below w.heap.size w W1) := B0.out.trans (d1.below.mono B0.out.size)
  have cu1 := Kd.e d1
  have bw1 := Kd.f d1
  clear cu0 bw0 d1
  go_wp2_with fail
  refine (draw16_any w W1 (w.heap.size) _ xs HSW.out hby hx bw1.out (Nat.le_refl _) cu1.out).mono ?_
  rintro e W2 ⟨v9, T, rfl, hT1, hT8, hDX, o9, d2⟩
  have z2 := d2.apart.size
  have B2 : Hid (Below w.heap.size w W2) := B0.out.trans (d2.below.mono B0.out.size)
  have cu2 := Kd.e d2
  have bw2 := Kd.f d2
  clear cu1 bw1 d2
  obtain ⟨ao, cap, rfl, hc9⟩ := o9.form
  have HDX := Ke.h hDX
  clear hDX
  have f_o2 : Hid (Oet W2 W1.heap.size W2.heap.size (.slice ao T.length cap) T) := o9
  clear o9
  go_wp2_with fail
  refine (roots15_any w W2 (w.heap.size) _ xs HSW.out hby hx bw2.out (Nat.le_refl _) cu2.out _ T (W1.heap.size) (W2.heap.size) f_o2.out (by omega) hT1 hT8).mono ?_
  rintro e W3 ⟨v8, R, rfl, hR1, hR3, hWN, o8, d3⟩
  have z3 := d3.apart.size
  have B3 : Hid (Below w.heap.size w W3) := B0.out.trans (d3.below.mono B0.out.size)
  have cu3 := Kd.e d3
  have bw3 := Kd.f d3
  have f_o3 : Hid (Oet W3 W1.heap.size W2.heap.size (.slice ao T.length cap) T) := Oet.drawn f_o2.out d3 (by omega)
  clear cu2 bw2 d3 f_o2
  obtain ⟨a8, c8, rfl⟩ := Od.slice o8
  have HWN := Ke.h hWN
  clear hWN
  have f_d3 : Hid (Odt W3 W2.heap.size W3.heap.size (.slice a8 R.length c8) R) := ⟨o8, Nat.le_refl _⟩
  clear o8
  go_wp2_with fail
  refine (once_any w W3 (w.heap.size) _ xs 2 (by omega) (by omega) HSW.out hby hx bw3.out (Nat.le_refl _) cu3.out).mono ?_
  rintro e W4 ⟨bb, rfl, d4⟩
  have z4 := d4.apart.size
  have B4 : Hid (Below w.heap.size w W4) := B0.out.trans (d4.below.mono B0.out.size)
  have cu4 := Kd.e d4
  have bw4 := Kd.f d4
  have f_o4 : Hid (Oet W4 W1.heap.size W2.heap.size (.slice ao T.length cap) T) := Oet.drawn f_o3.out d4 (by omega)
  have f_d4 : Hid (Odt W4 W2.heap.size W3.heap.size (.slice a8 R.length c8) R) := Odt.drawn f_d3.out d4 (by omega)
  clear cu3 bw3 d4 f_o3 f_d3
  cases bb
  · go_wp2
    go_ret2
    exact ⟨_, _, T, R, rfl, hT1, hT8, HDX.out, by omega, HWN.out.dq HDX.out, f_o4.out.se, f_d4.out.1.sd, B4.out⟩
  · go_wp2_with fail
    have hRz : ∀ x ∈ R, x.path.size ≤ 1000000000000 ∧ x.pre.size ≤ 1000000000000 := fun x hx => by have := Dn.size (HWN.out.dq HDX.out x hx); omega
    refine (select_spec W4 _ _ T R f_o4.out.se f_d4.out.1.sd (by omega) (by omega) (Dy.fits HDX.out) hRz).mono ?_
    rintro e W5 ⟨v7, rfl, o7, b5⟩
    have z5 := b5.size
    have B5 := Ke.b B4 b5
    have f_o5 : Hid (Oet W5 W1.heap.size W2.heap.size (.slice ao T.length cap) T) := Oet.later f_o4.out b5
    have f_d5 : Hid (Odt W5 W2.heap.size W3.heap.size (.slice a8 R.length c8) R) := Odt.later f_d4.out b5
    clear f_o4 f_d4
    have cu5 := Kd.c cu4 b5
    have bw5 := Ke.b bw4 b5
    clear cu4 bw4
    obtain ⟨c, hc⟩ : ∃ c, (select16 T R).2 = c := ⟨_, rfl⟩
    rw [hc]
    clear hc
    obtain ⟨a7, c7, rfl⟩ := Od.slice o7
    by_cases hz : c = 0
    · subst hz
      go_wp2
      go_ret2
      exact ⟨_, _, T, (select16 T R).1, rfl, hT1, hT8, HDX.out, select_sz T R, select_dq HDX.out (HWN.out.dq HDX.out), f_o5.out.se, o7.sd, B5.out⟩
    · go_wp2
      go_ret2
      exact ⟨_, _, T, R, rfl, hT1, hT8, HDX.out, by omega, HWN.out.dq HDX.out, f_o5.out.se, f_d5.out.1.sd, B5.out⟩

end Go.Proofs.Ytlhmemnaiobgkaa.Se
