/- Texts in one: Se5, Se9, ImpF, SeH, LatA, ImpG, ImpH, ImpI. -/
import Derived.Test.YtlhmemnaiobgkaaGreatDoorPq8
import Derived.Test.YtlhmemnaiobgkaaGreatDoorPq16
import Derived.Test.YtlhmemnaiobgkaaGreatDoorPq5
import Derived.Test.YtlhmemnaiobgkaaGreatDoorPq18
import Derived.Test.YtlhmemnaiobgkaaGreatDoorPq26
import Derived.Test.YtlhmemnaiobgkaaGreatDoorPq29
import Derived.Test.YtlhmemnaiobgkaaGreatDoorPq13
import Derived.Test.YtlhmemnaiobgkaaGreatDoorPq6
import Derived.Deep.RegionHeld3
/- Chapter 16, the specification's side: a need in order, of one path the later. -/
namespace Go.Proofs.YtlhmemnaiobgkaaGreatDoor.Se
open Go.RowKit Go.Proofs.YtlhmemnaiobgkaaGreatDoor.Mem Go.Proofs.YtlhmemnaiobgkaaGreatDoor.Laws Go.Proofs.YtlhmemnaiobgkaaGreatDoor.Ver Go.Proofs.YtlhmemnaiobgkaaGreatDoor.Ent Go.Proofs.YtlhmemnaiobgkaaGreatDoor.Fe
set_option linter.unusedVariables false
set_option linter.unusedSimpArgs false

theorem max16_hit {l : List Nd} {q x : Nd} {k : Nat} (h : l[k]? = some x) (he : cov1 q x = true) : max16 l q = l := by
  unfold max16
  rw [if_pos (List.any_eq_true.2 ⟨x, List.mem_of_getElem? h, he⟩)]
theorem max16_none {l : List Nd} {q : Nd} (h : ∀ x ∈ l, cov1 q x = false) : max16 l q = insN l q := by
  unfold max16
  rw [if_neg]
  intro ha
  obtain ⟨x, hx, hc⟩ := List.any_eq_true.1 ha
  rw [h x hx] at hc
  cases hc

set_option maxRecDepth 1000000 in
set_option maxHeartbeats 4000000 in
theorem max_spec (w : World) (v : Value) (l : List Nd) (q : Nd) (h : Sd w v l) (hl : l.length ≤ 1000) (hz : ∀ x ∈ l, x.pre.size ≤ 1000000000000) (hq : q.pre.size ≤ 1000000000000) :
    Calls Tryz.prog 52 #[v, .agg #[.string q.path, .int .i64 q.a, .int .i64 q.b, .int .i64 q.c, .string q.pre]] w fun e w' => ∃ v', e = .returned v' ∧ (v' = v ∧ max16 l q = l ∨ Od w' w.heap.size w'.heap.size v' (max16 l q)) ∧ Below w.heap.size w w' := by
  have HS : Hid (Sd w v l) := h
  obtain ⟨_, ao, cap, rfl, hcap, _, _⟩ := h
  have B0 : Hid (Below w.heap.size w w) := Below.refl _ _
  obtain ⟨W1, HW1, b1, y1, hS1, r_q1⟩ := Ke.l1 w #[.string q.path, .int .i64 q.a, .int .i64 q.b, .int .i64 q.c, .string q.pre] 38
  have z1 := b1.size
  have B1 := Ke.b B0 b1
  have c_q1 := Ke.c r_q1
  go_enter Tryz.func52, Tryz.ntmps52
  go_wp2_with fail
  rw [HW1.out]
  go_loopw [5] (fun i wr => ∃ k : Nat, k ≤ l.length ∧ i = .int .i64 (k : Int) ∧ Hid (∀ x ∈ l.take k, cov1 q x = false) ∧ Hid (Below w.heap.size w wr) ∧ Hid (wr.heap[w.heap.size]? = some (.cells #[.string q.path, .int .i64 q.a, .int .i64 q.b, .int .i64 q.c, .string q.pre] 38 (0, 0)))) (fun i _ => l.length - (intOf i).toNat)
  case atStart => exact ⟨0, Nat.zero_le _, rfl, (fun x hx => by simp at hx), B1, r_q1⟩
  case round =>
    obtain ⟨k, hk, rfl, HN, B2, r_q2⟩ := hrel
    obtain ⟨W2, hW2⟩ : ∃ X, X = wr := ⟨_, rfl⟩
    subst hW2
    clear r_q1 c_q1
    have c_q2 := Ke.c r_q2
    by_cases hlt : k < l.length
    · have hlt2 : (k : Int) < (l.length : Int) := by omega
      obtain ⟨x, hx⟩ : ∃ x, l[k]? = some x := ⟨l[k], by simp [hlt]⟩
      obtain ⟨b, off, cap9, he, _, m0, m1, m2, m3, m4⟩ := Sd.at (HS.out.later B2.out) hx
      simp only [Value.slice.injEq] at he
      obtain ⟨rfl, _, rfl⟩ := he
      have HX : Hid (l[k]? = some x) := hx
      have hxp := hz x (List.mem_of_getElem? hx)
      clear hx
      obtain ⟨P, hP⟩ : ∃ P, (x.path.toList == q.path.toList) = P := ⟨_, rfl⟩
      obtain ⟨V, hV⟩ : ∃ V, lessV x.a x.b x.c x.pre q.a q.b q.c q.pre = V := ⟨_, rfl⟩
      have HI : Hid (cov1 q x = (P && !V)) := by show cov1 _ _ = _; unfold cov1 eqT lv; rw [hP, hV]
      have q1 : ∀ W, _ := fun W => less_spec W x.a x.b x.c x.pre q.a q.b q.c q.pre hxp hq
      simp only [hV] at q1
      clear hV
      cases P
      · go_wp2_with fail
        refine wp_region_held_drew (S := fun w' => w'.cell? ⟨w.heap.size, 0, none⟩ = some (.string q.path) ∧ w'.cell? ⟨w.heap.size, 1, none⟩ = some (.int .i64 q.a) ∧ w'.cell? ⟨w.heap.size, 2, none⟩ = some (.int .i64 q.b) ∧ w'.cell? ⟨w.heap.size, 3, none⟩ = some (.int .i64 q.c) ∧ w'.cell? ⟨w.heap.size, 4, none⟩ = some (.string q.pre) ∧ w'.cell? ⟨b, off + k * 5, none⟩ = some (.string x.path) ∧ w'.cell? ⟨b, off + k * 5 + 1, none⟩ = some (.int .i64 x.a) ∧ w'.cell? ⟨b, off + k * 5 + 2, none⟩ = some (.int .i64 x.b) ∧ w'.cell? ⟨b, off + k * 5 + 3, none⟩ = some (.int .i64 x.c) ∧ w'.cell? ⟨b, off + k * 5 + 4, none⟩ = some (.string x.pre)) (by kernel_rfl) ⟨(c_q2 0), (c_q2 1), (c_q2 2), (c_q2 3), (c_q2 4), m0, m1, m2, m3, m4⟩ (fun hHeld => ?_)
        refine Ke.y 0 rfl (fun _ _ _ h => h) ?_
        try simp only [Act.put, pu1, pu2, pu3, pu4, pu5, pu6]
        refine Ke.y 1 rfl (fun _ _ _ h => h) ?_
        try simp only [Act.put, pu1, pu2, pu3, pu4, pu5, pu6]
        refine Ke.y 2 rfl (fun _ _ _ h => h) ?_
        try simp only [Act.put, pu1, pu2, pu3, pu4, pu5, pu6]
        refine Ke.y 3 rfl (fun _ _ _ h => h) ?_
        try simp only [Act.put, pu1, pu2, pu3, pu4, pu5, pu6]
        refine Ke.y 4 rfl (fun _ _ _ h => h) ?_
        try simp only [Act.put, pu1, pu2, pu3, pu4, pu5, pu6]
        refine Ke.y 5 rfl (fun _ _ _ h => h) ?_
        try simp only [Act.put, pu1, pu2, pu3, pu4, pu5, pu6]
        refine Ke.y 6 rfl (fun _ _ _ h => h) ?_
        try simp only [Act.put, pu1, pu2, pu3, pu4, pu5, pu6]
        refine Ke.y 7 rfl (fun _ _ _ h => h) ?_
        try simp only [Act.put, pu1, pu2, pu3, pu4, pu5, pu6]
        refine Ke.y 8 rfl (fun _ _ _ h => h) ?_
        try simp only [Act.put, pu1, pu2, pu3, pu4, pu5, pu6]
        refine Ke.x 9 rfl (fun _ _ _ h => h) ?_
        try simp only [Act.put, pu1, pu2, pu3, pu4, pu5, pu6]
        refine Ke.x 10 rfl (fun _ _ _ h => h) ?_
        try simp only [Act.put, pu1, pu2, pu3, pu4, pu5, pu6]
        refine Ke.x 11 rfl (fun _ _ _ h => h) ?_
        try simp only [Act.put, pu1, pu2, pu3, pu4, pu5, pu6]
        refine Ke.x 12 rfl (fun _ _ _ h => h) ?_
        try simp only [Act.put, pu1, pu2, pu3, pu4, pu5, pu6]
        refine Ke.x 13 rfl (fun _ _ _ h => h) ?_
        try simp only [Act.put, pu1, pu2, pu3, pu4, pu5, pu6]
        refine Ke.x 14 rfl (fun _ _ _ h => h) ?_
        try simp only [Act.put, pu1, pu2, pu3, pu4, pu5, pu6]
        refine Ke.x 15 rfl (fun _ _ _ h => h) ?_
        try simp only [Act.put, pu1, pu2, pu3, pu4, pu5, pu6]
        refine Ke.x 16 rfl (fun _ _ _ h => h) ?_
        try simp only [Act.put, pu1, pu2, pu3, pu4, pu5, pu6]
        refine Ke.x 17 rfl (fun _ _ _ h => h) ?_
        try simp only [Act.put, pu1, pu2, pu3, pu4, pu5, pu6]
        refine Ke.y 18 rfl (fun _ _ _ h => h) ?_
        try simp only [Act.put, pu1, pu2, pu3, pu4, pu5, pu6]
        refine wpAnyH_done (by kernel_rfl) ?_ _
        clear hHeld
        obtain ⟨W3, HW3, b3⟩ : ∃ X, Hid (W2.drew = X) ∧ Below W2.heap.size W2 X := ⟨_, rfl, Below.drew (Below.refl _ _)⟩
        rw [HW3.out]
        have z3 := b3.size
        have B3 := Ke.b B2 b3
        have r_q3 := Ke.r r_q2 b3
        have c_q3 := Ke.c r_q3
        clear r_q2 c_q2
        go_wp2
        go_roundw
        case rel => exact ⟨k + 1, by omega, by go_num, fun y hy => by rw [take_snoc15 HX.out] at hy; rcases List.mem_append.1 hy with h9 | h9; exact HN.out y h9; rw [List.mem_singleton.1 h9]; exact HI.out, B3, r_q3⟩
        case measure => simp [intOf]; omega
      · go_wp2_with fail
        refine wp_region_held_drew (S := fun w' => w'.cell? ⟨w.heap.size, 0, none⟩ = some (.string q.path) ∧ w'.cell? ⟨w.heap.size, 1, none⟩ = some (.int .i64 q.a) ∧ w'.cell? ⟨w.heap.size, 2, none⟩ = some (.int .i64 q.b) ∧ w'.cell? ⟨w.heap.size, 3, none⟩ = some (.int .i64 q.c) ∧ w'.cell? ⟨w.heap.size, 4, none⟩ = some (.string q.pre) ∧ w'.cell? ⟨b, off + k * 5, none⟩ = some (.string x.path) ∧ w'.cell? ⟨b, off + k * 5 + 1, none⟩ = some (.int .i64 x.a) ∧ w'.cell? ⟨b, off + k * 5 + 2, none⟩ = some (.int .i64 x.b) ∧ w'.cell? ⟨b, off + k * 5 + 3, none⟩ = some (.int .i64 x.c) ∧ w'.cell? ⟨b, off + k * 5 + 4, none⟩ = some (.string x.pre)) (by kernel_rfl) ⟨(c_q2 0), (c_q2 1), (c_q2 2), (c_q2 3), (c_q2 4), m0, m1, m2, m3, m4⟩ (fun hHeld => ?_)
        obtain ⟨W3, HW3, b3⟩ : ∃ X, Hid (W2.drew = X) ∧ Below W2.heap.size W2 X := ⟨_, rfl, Below.drew (Below.refl _ _)⟩
        have HHW3 := HW3.out
        rw [HHW3] at hHeld ⊢
        clear HHW3
        have z3 := b3.size
        have B3 := Ke.b B2 b3
        have r_q3 := Ke.r r_q2 b3
        have c_q3 := Ke.c r_q3
        clear r_q2 c_q2
        refine Ke.y 0 rfl (fun _ _ _ h => h) ?_
        try simp only [Act.put, pu1, pu2, pu3, pu4, pu5, pu6]
        refine Ke.y 1 rfl (fun _ _ _ h => h) ?_
        try simp only [Act.put, pu1, pu2, pu3, pu4, pu5, pu6]
        refine Ke.y 2 rfl (fun _ _ _ h => h) ?_
        try simp only [Act.put, pu1, pu2, pu3, pu4, pu5, pu6]
        refine Ke.y 3 rfl (fun _ _ _ h => h) ?_
        try simp only [Act.put, pu1, pu2, pu3, pu4, pu5, pu6]
        refine Ke.y 4 rfl (fun _ _ _ h => h) ?_
        try simp only [Act.put, pu1, pu2, pu3, pu4, pu5, pu6]
        refine Ke.y 5 rfl (fun _ _ _ h => h) ?_
        try simp only [Act.put, pu1, pu2, pu3, pu4, pu5, pu6]
        refine Ke.y 6 rfl (fun _ _ _ h => h) ?_
        try simp only [Act.put, pu1, pu2, pu3, pu4, pu5, pu6]
        refine Ke.y 7 rfl (fun _ _ _ h => h) ?_
        try simp only [Act.put, pu1, pu2, pu3, pu4, pu5, pu6]
        refine Ke.y 8 rfl (fun _ _ _ h => h) ?_
        try simp only [Act.put, pu1, pu2, pu3, pu4, pu5, pu6]
        refine Ke.y 9 rfl (fun _ _ _ h => h) ?_
        try simp only [Act.put, pu1, pu2, pu3, pu4, pu5, pu6]
        refine Ke.y 10 rfl (fun _ _ _ h => h) ?_
        try simp only [Act.put, pu1, pu2, pu3, pu4, pu5, pu6]
        refine Ke.y 11 rfl (fun _ _ _ h => h) ?_
        try simp only [Act.put, pu1, pu2, pu3, pu4, pu5, pu6]
        refine Ke.y 12 rfl (fun _ _ _ h => h) ?_
        try simp only [Act.put, pu1, pu2, pu3, pu4, pu5, pu6]
        refine Ke.y 13 rfl (fun _ _ _ h => h) ?_
        try simp only [Act.put, pu1, pu2, pu3, pu4, pu5, pu6]
        refine Ke.y 14 rfl (fun _ _ _ h => h) ?_
        try simp only [Act.put, pu1, pu2, pu3, pu4, pu5, pu6]
        refine Ke.y 15 rfl (fun _ _ _ h => h) ?_
        try simp only [Act.put, pu1, pu2, pu3, pu4, pu5, pu6]
        refine Ke.z 16 rfl (fun K hK => ?_)
        go_simp
        refine (q1 W3).mono ?_
        rintro e W4 ⟨rfl, b4⟩
        refine hK.out _ _ ⟨(keepR (W := W3) hHeld.1 b4), (keepR (W := W3) hHeld.2.1 b4), (keepR (W := W3) hHeld.2.2.1 b4), (keepR (W := W3) hHeld.2.2.2.1 b4), (keepR (W := W3) hHeld.2.2.2.2.1 b4), (keepR (W := W3) hHeld.2.2.2.2.2.1 b4), (keepR (W := W3) hHeld.2.2.2.2.2.2.1 b4), (keepR (W := W3) hHeld.2.2.2.2.2.2.2.1 b4), (keepR (W := W3) hHeld.2.2.2.2.2.2.2.2.1 b4), (keepR (W := W3) hHeld.2.2.2.2.2.2.2.2.2 b4)⟩ (fun hHeld => ?_)
        clear hK K
        try simp only [Act.put, pu1, pu2, pu3, pu4, pu5, pu6]
        have z4 := b4.size
        have B4 := Ke.b B3 b4
        have r_q4 := Ke.r r_q3 b4
        have c_q4 := Ke.c r_q4
        clear r_q3 c_q3
        refine Ke.y 17 rfl (fun _ _ _ h => h) ?_
        try simp only [Act.put, pu1, pu2, pu3, pu4, pu5, pu6]
        refine Ke.y 18 rfl (fun _ _ _ h => h) ?_
        try simp only [Act.put, pu1, pu2, pu3, pu4, pu5, pu6]
        refine wpAnyH_done (by kernel_rfl) ?_ _
        clear hHeld
        cases V
        · go_wp2
          go_ret
          first | exact ⟨_, rfl, .inl ⟨rfl, max16_hit HX.out HI.out⟩, B4.out⟩ | exact ⟨_, by rfl, .inl ⟨by rfl, max16_hit HX.out HI.out⟩, B4.out⟩
        · go_wp2
          go_roundw
          case rel => exact ⟨k + 1, by omega, by go_num, fun y hy => by rw [take_snoc15 HX.out] at hy; rcases List.mem_append.1 hy with h9 | h9; exact HN.out y h9; rw [List.mem_singleton.1 h9]; exact HI.out, B4, r_q4⟩
          case measure => simp [intOf]; omega
    · have hlt2 : ¬ (k : Int) < (l.length : Int) := by omega
      have HE : Hid (k = l.length) := by show _ = _; omega
      have q2 := put_any W2 _ l q (HS.out.later B2.out) hl
      go_wp2_with fail
      refine q2.mono ?_
      rintro e w2 ⟨v2, rfl, o2, b2⟩
      go_wp2
      go_ret
      first | exact ⟨_, rfl, .inr (by rw [max16_none (fun y hy => HN.out y (by rw [HE.out, List.take_length]; exact hy))]; exact On.mono o2 B2.out.size (Nat.le_refl _)), B2.out.trans (b2.mono B2.out.size)⟩ | skip

end Go.Proofs.YtlhmemnaiobgkaaGreatDoor.Se

/- Chapter 16, the specification's side: Select. -/
namespace Go.Proofs.YtlhmemnaiobgkaaGreatDoor.Se
open Go.RowKit Go.Proofs.YtlhmemnaiobgkaaGreatDoor.Mem Go.Proofs.YtlhmemnaiobgkaaGreatDoor.Laws Go.Proofs.YtlhmemnaiobgkaaGreatDoor.Ver Go.Proofs.YtlhmemnaiobgkaaGreatDoor.Ent Go.Proofs.YtlhmemnaiobgkaaGreatDoor.Fe
set_option linter.unusedVariables false
set_option linter.unusedSimpArgs false

theorem ins_len (l : List Nd) (n : Nd) : (insN l n).length ≤ l.length + 1 := by
  have htd : (l.takeWhile (lts n)).length + (l.dropWhile (lts n)).length = l.length := by rw [← List.length_append, List.takeWhile_append_dropWhile]
  have := List.length_filter_le (nes n) (l.dropWhile (lts n))
  rw [ins_form]
  simp
  omega
theorem max_len (l : List Nd) (n : Nd) : (max16 l n).length ≤ l.length + 1 := by
  unfold max16
  split
  · omega
  · exact ins_len l n
theorem max_mem {l : List Nd} {n x : Nd} (h : x ∈ max16 l n) : x ∈ l ∨ x = n := by
  unfold max16 at h
  split at h
  · exact .inl h
  · rcases ins_mem h with h | h
    · exact .inr h
    · exact .inl h
theorem sel_fold_len : ∀ (r l : List Nd), (r.foldl max16 l).length ≤ l.length + r.length := by
  intro r
  induction r with
  | nil => intro l; simp
  | cons n r ih =>
    intro l
    have h1 := ih (max16 l n)
    have h2 := max_len l n
    rw [List.foldl_cons]
    simp only [List.length_cons]
    omega
theorem sel_len (r : List Nd) : (sel16 r).length ≤ r.length := by
  have := sel_fold_len r []
  simpa [sel16] using this
theorem sel_fold_mem : ∀ (r l : List Nd) (x : Nd), x ∈ r.foldl max16 l → x ∈ l ∨ x ∈ r := by
  intro r
  induction r with
  | nil => intro l x h; exact .inl h
  | cons n r ih =>
    intro l x h
    rw [List.foldl_cons] at h
    rcases ih _ _ h with h | h
    · rcases max_mem h with h | rfl
      · exact .inl h
      · exact .inr (by simp)
    · exact .inr (by simp [h])
theorem sel_mem {r : List Nd} {x : Nd} (h : x ∈ sel16 r) : x ∈ r := by
  rcases sel_fold_mem r [] x h with h | h
  · cases h
  · exact h
theorem sel_snoc {r : List Nd} {k : Nat} {q : Nd} (h : r[k]? = some q) : sel16 (r.take (k + 1)) = max16 (sel16 (r.take k)) q := by
  rw [take_snoc15 h]
  unfold sel16
  rw [List.foldl_append]
  rfl
theorem reach_size {l : List Ev} {s : List Nd} {D : Nd → Prop} (h1 : ∀ q ∈ s, D q) (h2 : ∀ e ∈ l, ∀ n ∈ e.l, D n) : (reach16 l s).1.length ≤ 60 ∧ ∀ x ∈ (reach16 l s).1, D x := by
  rcases reach16_code l s with h | ⟨h, _⟩
  · have := reach_rch h
    exact ⟨this.len, this.all h1 h2⟩
  · rw [h]; exact ⟨by simp, fun x hx => (List.not_mem_nil hx).elim⟩

set_option maxRecDepth 1000000 in
set_option maxHeartbeats 8000000 in
theorem select_spec (w : World) (v1 v2 : Value) (l : List Ev) (s : List Nd) (h1 : Se w v1 l) (h2 : Sd w v2 s) (hl : l.length ≤ 1000000000) (hs : s.length ≤ 1000000000) (hy1 : ∀ e ∈ l, e.n.path.size ≤ 1000000000000 ∧ e.n.pre.size ≤ 1000000000000 ∧ e.l.length ≤ 1000000000 ∧ ∀ x ∈ e.l, x.path.size ≤ 1000000000000 ∧ x.pre.size ≤ 1000000000000) (hy2 : ∀ x ∈ s, x.path.size ≤ 1000000000000 ∧ x.pre.size ≤ 1000000000000) :
    Calls Tryz.prog 20 #[v1, v2] w fun e w' => ∃ v', e = .returned (.tuple #[v', .int .i64 (select16 l s).2]) ∧ Od w' w.heap.size w'.heap.size v' (select16 l s).1 ∧ Below w.heap.size w w' := by
  obtain ⟨hR60, hRz⟩ := reach_size (l := l) (s := s) (D := fun x => x.path.size ≤ 1000000000000 ∧ x.pre.size ≤ 1000000000000) hy2 (fun e he n hn => (hy1 e he).2.2.2 n hn)
  have q1 := reach_spec w v1 v2 l s h1 h2 hl hs hy1 hy2
  have e1 : (select16 l s).1 = sel16 (reach16 l s).1 := rfl
  have e2 : (select16 l s).2 = (reach16 l s).2 := rfl
  rw [e1, e2]
  clear e1 e2
  obtain ⟨R, hR⟩ : ∃ R, (reach16 l s).1 = R := ⟨_, rfl⟩
  obtain ⟨c, hc⟩ : ∃ c, (reach16 l s).2 = c := ⟨_, rfl⟩
  rw [hR] at hR60 hRz
  simp only [hR, hc] at q1 ⊢
  clear hR hc h1 h2
  have HRZ : Hid (∀ x ∈ R, x.path.size ≤ 1000000000000 ∧ x.pre.size ≤ 1000000000000) := hRz
  clear hRz
  go_enter Tryz.func20, Tryz.ntmps20
  go_wp2_with fail
  refine q1.mono ?_
  rintro e W1 ⟨v3, rfl, o1, b1⟩
  clear q1
  have O1 : Hid (Od W1 w.heap.size W1.heap.size v3 R) := o1
  have B1 : Hid (Below w.heap.size w W1) := b1
  obtain ⟨aoR, capR, hrv⟩ := on_slice5 o1
  subst hrv
  clear o1 b1
  have OL : Hid (Od (W1.alloc (.cells #[] 38)) W1.heap.size (W1.alloc (.cells #[] 38)).heap.size (.slice (some ⟨W1.heap.size, 0, none⟩) 0 0) []) := On.lit 5 W1 W1.heap.size 38 (Nat.le_refl _)
  have DL : Hid (Below W1.heap.size W1 (W1.alloc (.cells #[] 38))) := (Below.refl _ _).alloc (Nat.le_refl _) _
  go_wp2_with fail
  go_loopw [8, 9] (fun ov iv wr => ∃ (k : Nat), iv = .int .i64 (k : Int) ∧ k ≤ R.length ∧ Hid (Od wr W1.heap.size wr.heap.size ov (sel16 (R.take k))) ∧ Hid (Below W1.heap.size W1 wr)) (fun _ iv _ => R.length - (intOf iv).toNat)
  case atStart => exact ⟨0, rfl, Nat.zero_le _, OL, DL⟩
  case round =>
    obtain ⟨k, rfl, hk, HO, D2⟩ := hrel
    obtain ⟨W2, hW2⟩ : ∃ X, X = wr := ⟨_, rfl⟩
    subst hW2
    clear OL DL
    have B2 : Hid (Below w.heap.size w W2) := B1.out.trans (D2.out.mono B1.out.size)
    by_cases hlt : k < R.length
    · have hlt2 : (k : Int) < (R.length : Int) := by omega
      obtain ⟨q, hq⟩ : ∃ q, R[k]? = some q := ⟨R[k], by simp [hlt]⟩
      obtain ⟨b, off, cap9, he, _, m0, m1, m2, m3, m4⟩ := Sd.at O1.out.sd hq
      simp only [Value.slice.injEq] at he
      obtain ⟨rfl, _, rfl⟩ := he
      have HQ : Hid (R[k]? = some q) := hq
      have hqz := (HRZ.out q (List.mem_of_getElem? hq)).2
      clear hq
      have u0 := keepR m0 D2.out
      have u1 := keepR m1 D2.out
      have u2 := keepR m2 D2.out
      have u3 := keepR m3 D2.out
      have u4 := keepR m4 D2.out
      clear m0 m1 m2 m3 m4
      obtain ⟨T, hT⟩ : ∃ T, sel16 (R.take k) = T := ⟨_, rfl⟩
      have hTl : T.length ≤ 60 := by have := sel_len (R.take k); rw [hT] at this; simp at this; omega
      have hTz : ∀ x ∈ T, x.pre.size ≤ 1000000000000 := fun x hx => by rw [← hT] at hx; exact (HRZ.out x (List.mem_of_mem_take (sel_mem hx))).2
      have HT : Hid (sel16 (R.take (k + 1)) = max16 T q) := by show _ = _; rw [sel_snoc HQ.out, hT]
      have h9 := HO.out
      rw [hT] at h9
      obtain ⟨aoT, capT, hrv⟩ := on_slice5 h9
      subst hrv
      have HO2 : Hid (Od W2 W1.heap.size W2.heap.size (.slice aoT T.length capT) T) := h9
      clear HO hT h9
      have q2 := max_spec W2 (.slice aoT T.length capT) T q HO2.out.sd (by omega) hTz hqz
      go_wp2_with fail
      refine q2.mono ?_
      rintro e W3 ⟨v4, rfl, o4, b4⟩
      clear q2 u0 u1 u2 u3 u4
      have HO3 : Hid (Od W3 W1.heap.size W3.heap.size v4 (max16 T q)) := by
        rcases o4 with ⟨h8, h9⟩ | h9
        · rw [h8, h9]; exact Od.up HO2.out b4
        · exact On.mono h9 D2.out.size (Nat.le_refl _)
      have D3 : Hid (Below W1.heap.size W1 W3) := D2.out.trans (b4.mono D2.out.size)
      clear o4 b4
      go_wp2
      go_roundw
      case rel => exact ⟨k + 1, by go_num, by omega, by rw [HT.out]; exact HO3, D3⟩
      case measure => simp [intOf]; omega
    · have hlt2 : ¬ (k : Int) < (R.length : Int) := by omega
      have HE : Hid (k = R.length) := by show _ = _; omega
      go_wp2
      go_ret2
      exact ⟨_, rfl, by have h9 := HO.out; rw [HE.out, List.take_length] at h9; exact On.mono h9 B1.out.size (Nat.le_refl _), B2.out⟩

end Go.Proofs.YtlhmemnaiobgkaaGreatDoor.Se

/- Chapter 3, the landed code: which of two versions is less, down to the library's comparisons. -/
namespace Go.Proofs.YtlhmemnaiobgkaaGreatDoor.Ver
open Go.RowKit Go.Proofs.YtlhmemnaiobgkaaGreatDoor.Mem Go.Proofs.YtlhmemnaiobgkaaGreatDoor.Laws Go.Proofs.YtlhmemnaiobgkaaGreatDoor.Bytes Go.Proofs.YtlhmemnaiobgkaaGreatDoor.Sha
set_option linter.unusedVariables false
set_option linter.unusedSimpArgs false

def cmpI (x y : Int) : Int := if x < y then -1 else if y < x then 1 else 0
def cmpT (a b : ByteArray) : Int := if ltT a b = true then -1 else if eqT a b = true then 0 else 1
/-- the first that is not 0 -/
def orL : List Int → Int
  | [] => 0
  | x :: r => if x = 0 then orL r else x
def cmpPart (a b : ByteArray) : Int :=
  if isNum (sb a) = true then (if isNum (sb b) = true then orL [cmpI a.size b.size, cmpT a b] else -1) else (if isNum (sb b) = true then 1 else cmpT a b)
def cmpL : List ByteArray → List ByteArray → Int
  | [], [] => 0
  | [], _ :: _ => -1
  | _ :: _, [] => 1
  | t :: r, u :: q => if cmpPart t u = 0 then cmpL r q else cmpPart t u
def cmpPre (a b : ByteArray) : Int := if eqT a b = true then 0 else if a.size = 0 then 1 else if b.size = 0 then -1 else cmpL (splitT 46 a) (splitT 46 b)
def cmpV (a1 b1 c1 : Int) (p1 : ByteArray) (a2 b2 c2 : Int) (p2 : ByteArray) : Int := orL [cmpI a1 a2, cmpI b1 b2, cmpI c1 c2, cmpPre p1 p2]

set_option maxRecDepth 1000000 in
theorem compare_int (w : World) (x y : Int) : Calls Tryz.prog 83 #[.int .i64 x, .int .i64 y] w fun e w' => e = .returned (.int .i64 (cmpI x y)) ∧ w' = w := by
  have n1 : (x != x) = false := by simp
  have n2 : (y != y) = false := by simp
  by_cases h1 : x < y
  · have d1 : decide (x < y) = true := by simpa using h1
    have HR : Hid (cmpI x y = -1) := by show _ = _; simp [cmpI, h1]
    go_enter Tryz.func83, Tryz.ntmps83
    go_wp2
    go_ret
    exact ⟨by rw [HR.out]; rfl, rfl⟩
  · by_cases h2 : y < x
    · have HR : Hid (cmpI x y = 1) := by show _ = _; simp [cmpI, h1, h2]
      go_enter Tryz.func83, Tryz.ntmps83
      go_wp2
      go_ret
      exact ⟨by rw [HR.out]; rfl, rfl⟩
    · have HR : Hid (cmpI x y = 0) := by show _ = _; simp [cmpI, h1, h2]
      go_enter Tryz.func83, Tryz.ntmps83
      go_wp2
      go_ret
      exact ⟨by rw [HR.out]; rfl, rfl⟩

theorem gtr_str (t : TypeId) (a b : ByteArray) : binOp .gtr t (.string a) (.string b) = pure (.bool !(ltT a b || eqT a b)) := by simp [binOp, Op.stringOp, ltT, eqT]
theorem lss_str (t : TypeId) (a b : ByteArray) : binOp .lss t (.string a) (.string b) = pure (.bool (ltT a b)) := by simp [binOp, Op.stringOp, ltT]

set_option maxRecDepth 1000000 in
theorem compare_str (w : World) (x y : ByteArray) : Calls Tryz.prog 123 #[.string x, .string y] w fun e w' => e = .returned (.int .i64 (cmpT x y)) ∧ w' = w := by
  have n1 : (x.toList == x.toList) = true := by simp
  have n2 : (y.toList == y.toList) = true := by simp
  obtain ⟨l, hl⟩ : ∃ l, ltT x y = l := ⟨_, rfl⟩
  obtain ⟨q, hq⟩ : ∃ q, eqT x y = q := ⟨_, rfl⟩
  have g1 := gtr_str 9 x y
  have HR : Hid (cmpT x y = if l = true then -1 else if q = true then 0 else 1) := by show _ = _; unfold cmpT; rw [hl, hq]
  have hl' : Op.bytesLess x.toList y.toList = l := hl
  rw [hl, hq] at g1
  clear hl hq
  cases l
  · cases q
    · go_enter Tryz.func123, Tryz.ntmps123
      go_wp2
      go_ret
      exact ⟨by rw [HR.out]; rfl, rfl⟩
    · go_enter Tryz.func123, Tryz.ntmps123
      go_wp2
      go_ret
      exact ⟨by rw [HR.out]; rfl, rfl⟩
  · go_enter Tryz.func123, Tryz.ntmps123
    go_wp2
    go_ret
    exact ⟨by rw [HR.out]; rfl, rfl⟩

end Go.Proofs.YtlhmemnaiobgkaaGreatDoor.Ver

/- Chapter 16: of two versions that are right the landed code and the specification tell the same one less; plain facts. -/
namespace Go.Proofs.YtlhmemnaiobgkaaGreatDoor.Se
open Go.RowKit Go.Proofs.YtlhmemnaiobgkaaGreatDoor.Mem Go.Proofs.YtlhmemnaiobgkaaGreatDoor.Laws Go.Proofs.YtlhmemnaiobgkaaGreatDoor.Ver Go.Proofs.YtlhmemnaiobgkaaGreatDoor.Ent Go.Proofs.YtlhmemnaiobgkaaGreatDoor.Fe
set_option linter.unusedVariables false
set_option linter.unusedSimpArgs false

theorem numv_acc16 : ∀ (l : List Int) (n : Int), l.foldl (fun n c => n * 10 + (c - 48)) n = n * 10 ^ l.length + numv l := by
  intro l
  induction l with
  | nil => intro n; simp [numv]
  | cons c r ih =>
    intro n
    have e : numv (c :: r) = (0 * 10 + (c - 48)) * 10 ^ r.length + numv r := ih _
    rw [List.foldl_cons, ih, e, List.length_cons, Int.pow_succ, Int.add_mul, Int.zero_mul, Int.zero_add]
    have e1 : n * 10 * 10 ^ r.length = n * (10 ^ r.length * 10) := by rw [Int.mul_assoc, Int.mul_comm 10]
    rw [e1]
    omega
theorem numv_cons16 (c : Int) (r : List Int) : numv (c :: r) = (c - 48) * 10 ^ r.length + numv r := by
  have := numv_acc16 r (c - 48)
  unfold numv at this ⊢
  rw [List.foldl_cons]
  simpa using this
/-- digits of one length: the lesser number is the lesser text -/
theorem numv_lex16 : ∀ (a b : List UInt8), a.length = b.length → (a.map fun b => (b.toNat : Int)).all isd = true → (b.map fun b => (b.toNat : Int)).all isd = true →
    (numv (a.map fun b => (b.toNat : Int)) < numv (b.map fun b => (b.toNat : Int)) ↔ Op.bytesLess a b = true) := by
  intro a
  induction a with
  | nil => intro b hl _ _; cases b with
    | nil => simp [Op.bytesLess]
    | cons y b => cases hl
  | cons x a ih =>
    intro b hl ha hb
    cases b with
    | nil => cases hl
    | cons y b =>
      simp only [List.map_cons, List.all_cons, Bool.and_eq_true] at ha hb
      have hl' : a.length = b.length := by simpa using hl
      have ih' := ih b hl' ha.2 hb.2
      obtain ⟨a0, a1⟩ := numv_bd _ _ (Nat.le_refl _) ha.2
      obtain ⟨b0, b1⟩ := numv_bd _ _ (Nat.le_refl _) hb.2
      rw [List.map_cons, List.map_cons, numv_cons16, numv_cons16]
      simp only [List.length_map] at a1 b1 ⊢
      rw [← hl'] at b1 ⊢
      obtain ⟨p, hp⟩ : ∃ p : Int, p = 10 ^ a.length := ⟨_, rfl⟩
      rw [← hp] at a1 b1 ⊢
      simp only [Op.bytesLess, Bool.or_eq_true, Bool.and_eq_true, decide_eq_true_eq, beq_iff_eq]
      have hlt : x < y ↔ (x.toNat : Int) < y.toNat := by rw [UInt8.lt_iff_toNat_lt]; omega
      have heq : x = y ↔ (x.toNat : Int) = y.toNat := by rw [← UInt8.toNat_inj]; omega
      rw [hlt, heq, ← ih']
      obtain ⟨X, hX⟩ : ∃ X : Int, X = x.toNat := ⟨_, rfl⟩
      obtain ⟨Y, hY⟩ : ∃ Y : Int, Y = y.toNat := ⟨_, rfl⟩
      rw [← hX, ← hY]
      have hp0 : 0 ≤ p := by omega
      constructor
      · intro h
        rcases Int.lt_trichotomy X Y with h1 | h1 | h1
        · exact .inl h1
        · subst h1; exact .inr ⟨rfl, by omega⟩
        · exfalso
          have := Int.mul_le_mul_of_nonneg_right (show Y - 48 + 1 ≤ X - 48 by omega) hp0
          rw [Int.add_mul, Int.one_mul] at this
          omega
      · rintro (h1 | ⟨h1, h2⟩)
        · have := Int.mul_le_mul_of_nonneg_right (show X - 48 + 1 ≤ Y - 48 by omega) hp0
          rw [Int.add_mul, Int.one_mul] at this
          omega
        · subst h1; omega
theorem numv_big16 {c : Int} {r : List Int} (ha : (c :: r).all isd = true) (hc : c ≠ 48) : (10 : Int) ^ r.length ≤ numv (c :: r) := by
  simp only [List.all_cons, Bool.and_eq_true] at ha
  have h1 : 48 ≤ c ∧ c ≤ 57 := by simpa [isd] using ha.1
  obtain ⟨h0, _⟩ := numv_bd _ _ (Nat.le_refl _) ha.2
  rw [numv_cons16]
  have hp0 : (0 : Int) ≤ 10 ^ r.length := Int.pow_nonneg (by decide)
  have := Int.mul_le_mul_of_nonneg_right (show 1 ≤ c - 48 by omega) hp0
  rw [Int.one_mul] at this
  omega
theorem isNum_form16 {l : List Int} (h : isNum l = true) : l.all isd = true ∧ (l = [48] ∨ ∃ c r, l = c :: r ∧ c ≠ 48) := by
  unfold isNum at h
  simp only [Bool.and_eq_true, Bool.or_eq_true, decide_eq_true_eq] at h
  refine ⟨h.1, h.2.imp id fun h2 => ?_⟩
  cases l with
  | nil => simp at h2
  | cons c r => exact ⟨c, r, rfl, by simpa using h2.2⟩
/-- a longer number is greater -/
theorem numv_len16 {l m : List Int} (hl : l.all isd = true) (hm : isNum m = true) (h : l.length < m.length) (h0 : l ≠ []) : numv l < numv m := by
  obtain ⟨ha, hf⟩ := isNum_form16 hm
  obtain ⟨_, h1⟩ := numv_bd _ _ (Nat.le_refl _) hl
  rcases hf with rfl | ⟨c, r, rfl, hc⟩
  · cases l with
    | nil => exact absurd rfl h0
    | cons x l => simp at h
  · have := numv_big16 ha hc
    have h2 : l.length ≤ r.length := by simp at h; omega
    have h4 := Nat.pow_le_pow_right (n := 10) (by decide) h2
    have e : ∀ k : Nat, (10 : Int) ^ k = ((10 ^ k : Nat) : Int) := fun k => by rw [Int.natCast_pow]; rfl
    have h3 : (10 : Int) ^ l.length ≤ 10 ^ r.length := by rw [e, e]; omega
    omega
theorem eqT_sb16 {a b : ByteArray} : eqT a b = true ↔ a = b := eqT_same a b
theorem cmpT_zero {a b : ByteArray} : cmpT a b = 0 ↔ a = b := by
  unfold cmpT
  cases h : ltT a b with
  | true =>
    rw [if_pos rfl]
    constructor
    · intro h2; cases h2
    · rintro rfl; rw [lt_irr] at h; cases h
  | false =>
    rw [if_neg (by simp)]
    by_cases he : eqT a b = true
    · rw [if_pos he]; simp [(eqT_same a b).1 he]
    · rw [if_neg he]
      constructor
      · intro h2; cases h2
      · intro h2; exact absurd ((eqT_same a b).2 h2) he
theorem cmpT_neg {a b : ByteArray} : cmpT a b < 0 ↔ ltT a b = true := by
  unfold cmpT
  cases h : ltT a b with
  | true => simp
  | false =>
    rw [if_neg (by simp)]
    split <;> simp
theorem cmpPart_zero {a b : ByteArray} : cmpPart a b = 0 ↔ a = b := by
  unfold cmpPart
  constructor
  · intro h
    split at h
    · split at h
      · simp only [orL] at h
        split at h
        · rename_i h2
          split at h
          · rename_i h3; exact cmpT_zero.1 h3
          · rename_i h3; exact absurd h h3
        · rename_i h2; exact absurd h h2
      · cases h
    · split at h
      · cases h
      · exact cmpT_zero.1 h
  · rintro rfl
    have h0 : cmpT a a = 0 := cmpT_zero.2 rfl
    split
    · simp [orL, cmpI, h0]
    · exact h0
theorem orL2 (x y : Int) : orL [x, y] < 0 ↔ x < 0 ∨ x = 0 ∧ y < 0 := by
  simp only [orL]
  by_cases h : x = 0
  · subst h
    by_cases h2 : y = 0
    · subst h2; simp
    · simp [h2]
  · simp [h]
theorem cmpI_neg (x y : Int) : cmpI x y < 0 ↔ x < y := by
  unfold cmpI; split
  · simp [*]
  · split <;> omega
theorem cmpI_zero (x y : Int) : cmpI x y = 0 ↔ x = y := by
  unfold cmpI; split
  · omega
  · split <;> omega
theorem number_pos16 {l : List Int} (h : 0 ≤ number l) : number l = numv l := by
  unfold number at h ⊢
  split at h
  · exact absurd h (by decide)
  · rename_i hc; rw [if_neg hc]
/-- of two parts that are right -/
theorem lessPart16 {a b : ByteArray} (ha : Ver.part (sb a) = true) (hb : Ver.part (sb b) = true) : lessPart a b = decide (cmpPart a b < 0) := by
  have la : (sb a).length ≤ 8 := by unfold Ver.part at ha; simp only [Bool.and_eq_true, decide_eq_true_eq] at ha; exact ha.1.2.2
  have lb : (sb b).length ≤ 8 := by unfold Ver.part at hb; simp only [Bool.and_eq_true, decide_eq_true_eq] at hb; exact hb.1.2.2
  have na := isNum_number la
  have nb := isNum_number lb
  unfold lessPart cmpPart
  simp only [na, nb, decide_eq_true_eq]
  by_cases h1 : 0 ≤ number (sb a)
  · simp only [if_pos h1]
    by_cases h2 : 0 ≤ number (sb b)
    · simp only [if_pos h2]
      have ia : isNum (sb a) = true := by rw [na]; simpa using h1
      have ib : isNum (sb b) = true := by rw [nb]; simpa using h2
      have va := number_pos16 h1
      have vb := number_pos16 h2
      obtain ⟨da, fa⟩ := isNum_form16 ia
      obtain ⟨db, fb⟩ := isNum_form16 ib
      have za : sb a ≠ [] := by rcases fa with h | ⟨c, r, h, _⟩ <;> rw [h] <;> simp
      have zb : sb b ≠ [] := by rcases fb with h | ⟨c, r, h, _⟩ <;> rw [h] <;> simp
      rw [va, vb]
      apply decide_eq_decide.2
      rw [orL2, cmpI_neg, cmpI_zero, cmpT_neg]
      rw [← sb_len, ← sb_len]
      rcases Nat.lt_trichotomy (sb a).length (sb b).length with h | h | h
      · have := numv_len16 da ib h za
        constructor
        · intro _; exact .inl (by omega)
        · intro _; exact this
      · have h9 := numv_lex16 a.data.toList b.data.toList (by simpa [sb] using h) da db
        have e1 : numv (sb a) < numv (sb b) ↔ ltT a b = true := by unfold ltT; rw [ByteArray.toList_eq, ByteArray.toList_eq]; exact h9
        rw [e1]
        constructor
        · intro h3; exact .inr ⟨by omega, h3⟩
        · rintro (h3 | ⟨_, h3⟩)
          · omega
          · exact h3
      · have := numv_len16 db ia h zb
        constructor
        · intro h3; omega
        · rintro (h3 | ⟨h3, _⟩) <;> omega
    · simp only [if_neg h2]
      rfl
  · simp only [if_neg h1]
    by_cases h2 : 0 ≤ number (sb b)
    · simp only [if_pos h2]
      rfl
    · simp only [if_neg h2]
      have := @cmpT_neg a b
      cases hlt : ltT a b with
      | true => rw [hlt] at this; exact (decide_eq_true (this.2 rfl)).symm
      | false => rw [hlt] at this; exact (decide_eq_false (fun h => by have := this.1 h; cases this)).symm
theorem lessL16 : ∀ (l m : List ByteArray), (∀ t ∈ l, Ver.part (sb t) = true) → (∀ t ∈ m, Ver.part (sb t) = true) → lessL l m = decide (cmpL l m < 0) := by
  intro l
  induction l with
  | nil => intro m _ _; cases m <;> rfl
  | cons t r ih =>
    intro m hl hm
    cases m with
    | nil => rfl
    | cons u q =>
      show (if eqT t u = true then lessL r q else lessPart t u) = decide ((if cmpPart t u = 0 then cmpL r q else cmpPart t u) < 0)
      by_cases h : t = u
      · rw [if_pos ((eqT_same t u).2 h), if_pos (cmpPart_zero.2 h)]
        exact ih q (fun t ht => hl t (by simp [ht])) (fun t ht => hm t (by simp [ht]))
      · rw [if_neg (fun h2 => h ((eqT_same t u).1 h2)), if_neg (fun h2 => h (cmpPart_zero.1 h2))]
        exact lessPart16 (hl t (by simp)) (hm u (by simp))
theorem parts16 {p : ByteArray} (h : Ver.pre (sb p) = true) : ∀ t ∈ splitT 46 p, Ver.part (sb t) = true := by
  intro t ht
  unfold Ver.pre at h
  rw [Bool.and_eq_true, List.all_eq_true] at h
  refine h.1 _ ?_
  rw [← splitT_sb]
  exact List.mem_map_of_mem ht
/-- of two versions that are right: what the landed code says is what the specification says -/
theorem less_same16 {a1 b1 c1 : Int} {p1 : ByteArray} {a2 b2 c2 : Int} {p2 : ByteArray} (h1 : okV a1 b1 c1 p1 = true) (h2 : okV a2 b2 c2 p2 = true) :
    lessV a1 b1 c1 p1 a2 b2 c2 p2 = decide (cmpV a1 b1 c1 p1 a2 b2 c2 p2 < 0) := by
  have hp : (if eqT p1 p2 = true ∨ p1.size = 0 then false else if p2.size = 0 then true else lessPre p1 p2) = decide (cmpPre p1 p2 < 0) := by
    unfold cmpPre
    by_cases he : eqT p1 p2 = true
    · rw [if_pos (.inl he), if_pos he]; rfl
    · rw [if_neg he]
      by_cases z1 : p1.size = 0
      · rw [if_pos (.inr z1), if_pos z1]; rfl
      · rw [if_neg (by simp [he, z1]), if_neg z1]
        by_cases z2 : p2.size = 0
        · rw [if_pos z2, if_pos z2]; rfl
        · rw [if_neg z2, if_neg z2]
          unfold okV at h1 h2
          rw [Bool.and_eq_true, Bool.or_eq_true, decide_eq_true_eq] at h1 h2
          exact lessL16 _ _ (parts16 (h1.2.resolve_left z1)) (parts16 (h2.2.resolve_left z2))
  unfold lessV cmpV
  rw [hp]
  by_cases e1 : a1 = a2
  · have x1 : cmpI a1 a2 = 0 := (cmpI_zero _ _).2 e1
    rw [if_neg (by simpa using e1), x1]
    by_cases e2 : b1 = b2
    · have x2 : cmpI b1 b2 = 0 := (cmpI_zero _ _).2 e2
      rw [if_neg (by simpa using e2), x2]
      by_cases e3 : c1 = c2
      · have x3 : cmpI c1 c2 = 0 := (cmpI_zero _ _).2 e3
        rw [if_neg (by simpa using e3), x3]
        simp only [orL, if_pos]
        by_cases h : cmpPre p1 p2 = 0
        · simp [h]
        · simp [h]
      · have x3 : cmpI c1 c2 ≠ 0 := fun h => e3 ((cmpI_zero _ _).1 h)
        rw [if_pos (by simpa using e3)]
        simp only [orL, if_pos, if_neg x3]
        exact decide_eq_decide.2 (cmpI_neg _ _).symm
    · have x2 : cmpI b1 b2 ≠ 0 := fun h => e2 ((cmpI_zero _ _).1 h)
      rw [if_pos (by simpa using e2)]
      simp only [orL, if_pos, if_neg x2]
      exact decide_eq_decide.2 (cmpI_neg _ _).symm
  · have x1 : cmpI a1 a2 ≠ 0 := fun h => e1 ((cmpI_zero _ _).1 h)
    rw [if_pos (by simpa using e1)]
    simp only [orL, if_neg x1]
    exact decide_eq_decide.2 (cmpI_neg _ _).symm

end Go.Proofs.YtlhmemnaiobgkaaGreatDoor.Se

/- Chapter 3: lists of versions: what a row of them holds; a drawn list. -/
namespace Go.Proofs.YtlhmemnaiobgkaaGreatDoor.Ver
open Go.RowKit Go.Proofs.YtlhmemnaiobgkaaGreatDoor.Mem Go.Proofs.YtlhmemnaiobgkaaGreatDoor.Laws Go.Proofs.YtlhmemnaiobgkaaGreatDoor.Bytes Go.Proofs.YtlhmemnaiobgkaaGreatDoor.Sha Go.Proofs.YtlhmemnaiobgkaaGreatDoor.Draw
set_option linter.unusedVariables false
set_option linter.unusedSimpArgs false

/-- versions as cells, four each -/
def vs : List (Int × Int × Int × ByteArray) → List Value
  | [] => []
  | q :: r => .int .i64 q.1 :: .int .i64 q.2.1 :: .int .i64 q.2.2.1 :: .string q.2.2.2 :: vs r
theorem vs_len : ∀ l, (vs l).length = l.length * 4 := by
  intro l
  induction l with
  | nil => rfl
  | cons q r ih => simp [vs, ih]; omega
theorem vs_app (l m : List (Int × Int × Int × ByteArray)) : vs (l ++ m) = vs l ++ vs m := by
  induction l with
  | nil => rfl
  | cons q r ih => simp [vs, ih]
theorem vs_one : ∀ l, ∀ u ∈ vs l, u.oneCell' = true := by
  intro l
  induction l with
  | nil => intro u hu; cases hu
  | cons q r ih =>
    intro u hu
    simp only [vs, List.mem_cons] at hu
    rcases hu with rfl | rfl | rfl | rfl | hu
    · rfl
    · rfl
    · rfl
    · rfl
    · exact ih u hu
theorem vs_get : ∀ (l : List (Int × Int × Int × ByteArray)) (k : Nat) (q : Int × Int × Int × ByteArray), l[k]? = some q →
    (vs l)[4 * k]? = some (.int .i64 q.1) ∧ (vs l)[4 * k + 1]? = some (.int .i64 q.2.1) ∧ (vs l)[4 * k + 2]? = some (.int .i64 q.2.2.1) ∧ (vs l)[4 * k + 3]? = some (.string q.2.2.2) := by
  intro l
  induction l with
  | nil => intro k q h; simp at h
  | cons x r ih =>
    intro k q h
    cases k with
    | zero => simp at h; subst h; exact ⟨rfl, rfl, rfl, rfl⟩
    | succ k =>
      have := ih k q (by simpa using h)
      have e : 4 * (k + 1) = 4 * k + 4 := by omega
      rw [e]
      exact this

/-- block g holds the versions l, from its beginning on -/
def Cv (w : World) (g : Nat) (l : List (Int × Int × Int × ByteArray)) : Prop :=
  ∀ (k : Nat) (q : Int × Int × Int × ByteArray), l[k]? = some q → w.cell? ⟨g, 4 * k, none⟩ = some (.int .i64 q.1) ∧ w.cell? ⟨g, 4 * k + 1, none⟩ = some (.int .i64 q.2.1) ∧ w.cell? ⟨g, 4 * k + 2, none⟩ = some (.int .i64 q.2.2.1) ∧ w.cell? ⟨g, 4 * k + 3, none⟩ = some (.string q.2.2.2)
theorem Cv.later {w w' : World} {g : Nat} {l : List (Int × Int × Int × ByteArray)} (h : Cv w g l) (hb : Below w.heap.size w w') : Cv w' g l := by
  intro k q hq
  obtain ⟨h1, h2, h3, h4⟩ := h k q hq
  have hl : g < w.heap.size := World.block_lt_of_cell? w _ h1
  exact ⟨(hb.cell (p := ⟨g, 4 * k, none⟩) hl).trans h1, (hb.cell (p := ⟨g, 4 * k + 1, none⟩) hl).trans h2, (hb.cell (p := ⟨g, 4 * k + 2, none⟩) hl).trans h3, (hb.cell (p := ⟨g, 4 * k + 3, none⟩) hl).trans h4⟩

/-- v owns the versions l -/
def Ov (w : World) (lo hi : Nat) (v : Value) (l : List (Int × Int × Int × ByteArray)) : Prop :=
  w.ownsRow lo 32 4 v l.length (vs l) ∧ (∃ g cap, v = .slice (some ⟨g, 0, none⟩) l.length cap ∧ l.length ≤ cap ∧ g < hi)
theorem Ov.cv {w : World} {lo hi : Nat} {v : Value} {l : List (Int × Int × Int × ByteArray)} (h : Ov w lo hi v l) : ∃ g cap, v = .slice (some ⟨g, 0, none⟩) l.length cap ∧ l.length ≤ cap ∧ g < hi ∧ Cv w g l := by
  obtain ⟨h1, g, cap, rfl, hc, hg⟩ := h
  refine ⟨g, cap, rfl, hc, hg, fun k q hq => ?_⟩
  have hk : k < l.length := (List.getElem?_eq_some_iff.1 hq).1
  obtain ⟨a1, a2, a3, a4⟩ := vs_get l k q hq
  exact ⟨by rw [h1.cellAt _ (by omega)]; exact a1, by rw [h1.cellAt _ (by omega)]; exact a2, by rw [h1.cellAt _ (by omega)]; exact a3, by rw [h1.cellAt _ (by omega)]; exact a4⟩
theorem Ov.keep {w w' : World} {lo hi : Nat} {v : Value} {l : List (Int × Int × Int × ByteArray)} (h : Ov w lo hi v l) (hk : ∀ k, lo ≤ k → k < hi → w'.heap[k]? = w.heap[k]?) : Ov w' lo hi v l := by
  obtain ⟨⟨h1, h2⟩, g, cap, rfl, hc, hg⟩ := h
  refine ⟨⟨h1, ?_⟩, g, cap, rfl, hc, hg⟩
  rcases h2 with h2 | ⟨g', cap', cur, he, hb, hh, r⟩
  · exact .inl h2
  · have : g' = g := by simp at he; exact he.1.symm
    subst this
    exact .inr ⟨g', cap', cur, he, hb, by rw [hk g' hb hg]; exact hh, r⟩
theorem infoVv : (Tryz.prog.info? 32).map (fun i => (i.zero, i.size, i.bytes)) = some (some (.agg #[.int .i64 0, .int .i64 0, .int .i64 0, .string ⟨#[]⟩]), 4, 40) := by kernel_rfl

end Go.Proofs.YtlhmemnaiobgkaaGreatDoor.Ver

/- Chapter 3, the landed code: the first answer that is not 0; parts compared; lists of parts compared. -/
namespace Go.Proofs.YtlhmemnaiobgkaaGreatDoor.Ver
open Go.RowKit Go.Proofs.YtlhmemnaiobgkaaGreatDoor.Mem Go.Proofs.YtlhmemnaiobgkaaGreatDoor.Laws Go.Proofs.YtlhmemnaiobgkaaGreatDoor.Bytes Go.Proofs.YtlhmemnaiobgkaaGreatDoor.Sha
set_option linter.unusedVariables false
set_option linter.unusedSimpArgs false

def is64 (l : List Int) : List Value := l.map (Value.int .i64)
theorem is64_len (l : List Int) : (is64 l).length = l.length := by simp [is64]
theorem is64_get (l : List Int) (j : Nat) : (is64 l)[j]? = (l[j]?).map (Value.int .i64) := by simp [is64]

set_option maxRecDepth 1000000 in
set_option maxHeartbeats 1000000 in
theorem or_impl (w : World) (v : Value) (l : List Int) (hsl : Sl w v (is64 l)) (hl : l.length ≤ 1000) :
    Calls Tryz.prog 82 #[v] w fun e w' => e = .returned (.int .i64 (orL l)) ∧ w' = w := by
  obtain ⟨ao, cap, rfl, hc, hn, hr⟩ := hsl
  rw [is64_len] at hc hr ⊢
  have HR : Hid (0 < l.length → ∃ b off, ao = some ⟨b, off, none⟩ ∧ ∀ j, j < l.length → w.cell? ⟨b, off + j, none⟩ = (is64 l)[j]?) := hr
  clear hr hn
  go_enter Tryz.func82, Tryz.ntmps82
  go_wp2
  go_loopw [8] (fun i wr => ∃ k : Nat, k ≤ l.length ∧ i = .int .i64 (k : Int) ∧ Hid (orL l = orL (l.drop k)) ∧ w = wr) (fun i _ => l.length - (intOf i).toNat)
  case atStart => exact ⟨0, Nat.zero_le _, rfl, rfl, by first | rfl | trivial⟩
  case round =>
    obtain ⟨k, hk, rfl, HA, rfl⟩ := hrel
    by_cases hlt : k < l.length
    · obtain ⟨b, off, rfl, hcell0⟩ := HR.out (by omega)
      obtain ⟨x, hx⟩ : ∃ x, l[k]? = some x := ⟨l[k], by simp [hlt]⟩
      have hcell : w.cell? ⟨b, off + k, none⟩ = some (.int .i64 x) := by rw [hcell0 k hlt, is64_get, hx]; rfl
      have hd : l.drop k = x :: l.drop (k + 1) := by
        obtain ⟨hk', rfl⟩ := List.getElem?_eq_some_iff.1 hx
        rw [List.drop_eq_getElem_cons hk']
      have HO : Hid (orL l = if x = 0 then orL (l.drop (k + 1)) else x) := by show _ = _; rw [HA.out, hd, orL]
      clear hcell0 hd hx HR
      by_cases h0 : x = 0
      · have d0 : (x != 0) = false := by simpa using h0
        have HN : Hid (orL l = orL (l.drop (k + 1))) := by show _ = _; rw [HO.out, if_pos h0]
        clear h0
        go_wp2
        go_roundw
        case rel => exact ⟨k + 1, by omega, by go_num, HN, by first | rfl | trivial⟩
        case measure => simp [intOf]; omega
      · have d0 : (x != 0) = true := by simpa using h0
        have HN : Hid (orL l = x) := by show _ = _; rw [HO.out, if_neg h0]
        clear h0
        go_wp2
        go_ret
        exact ⟨by rw [HN.out]; rfl, rfl⟩
    · have HN : Hid (orL l = 0) := by
        show _ = _
        rw [HA.out, List.drop_eq_nil_of_le (by omega)]
        rfl
      go_wp2
      go_ret
      exact ⟨by rw [HN.out]; rfl, rfl⟩

set_option maxRecDepth 1000000 in
set_option maxHeartbeats 1000000 in
theorem cpart_impl (w : World) (a b : ByteArray) (ha : a.size ≤ 1000000000000) (hb : b.size ≤ 1000000000000) :
    Calls Tryz.prog 105 #[.string a, .string b] w fun e w' => e = .returned (.int .i64 (cmpPart a b)) ∧ Below w.heap.size w w' := by
  obtain ⟨x, hx⟩ : ∃ x, isNum (sb a) = x := ⟨_, rfl⟩
  obtain ⟨y, hy⟩ : ∃ y, isNum (sb b) = y := ⟨_, rfl⟩
  have HC : Hid (cmpPart a b = if x = true then (if y = true then orL [cmpI a.size b.size, cmpT a b] else -1) else (if y = true then 1 else cmpT a b)) := by
    show _ = _
    unfold cmpPart
    rw [hx, hy]
  have q1 := number_impl w a ha
  rw [hx] at q1
  have q2 := fun W => number_impl W b hb
  rw [hy] at q2
  clear hx hy
  go_enter Tryz.func105, Tryz.ntmps105
  go_wp2_with fail
  refine q1.mono ?_
  rintro e w1 ⟨rfl, b1⟩
  go_wp2_with fail
  refine (q2 w1).mono ?_
  rintro e w2 ⟨rfl, b2⟩
  have hb2 : Below w.heap.size w w2 := b1.trans (b2.mono b1.size)
  have hs2 := hb2.size
  clear q1 q2
  cases x
  · cases y
    · have HN : Hid (cmpPart a b = cmpT a b) := by show _ = _; rw [HC.out]; rfl
      have q3 := compare_str w2 a b
      obtain ⟨r, hr⟩ : ∃ r, cmpT a b = r := ⟨_, rfl⟩
      have HE : Hid (cmpT a b = r) := hr
      rw [hr] at q3
      clear hr
      go_wp2_with (go_at_call 123; refine q3.mono ?_; rintro e w' ⟨rfl, rfl⟩)
      go_ret
      exact ⟨by rw [HN.out, HE.out]; rfl, hb2⟩
    · have HN : Hid (cmpPart a b = 1) := by show _ = _; rw [HC.out]; rfl
      go_wp2_with fail
      go_ret
      exact ⟨by rw [HN.out]; rfl, hb2⟩
  · cases y
    · have HN : Hid (cmpPart a b = -1) := by show _ = _; rw [HC.out]; rfl
      go_wp2_with fail
      go_ret
      exact ⟨by rw [HN.out]; rfl, hb2⟩
    · have HN : Hid (cmpPart a b = orL [cmpI a.size b.size, cmpT a b]) := by show _ = _; rw [HC.out]; rfl
      have q3 := compare_str w2 a b
      obtain ⟨r, hr⟩ : ∃ r, cmpT a b = r := ⟨_, rfl⟩
      have q4 := compare_int w2 (a.size : Int) (b.size : Int)
      obtain ⟨t, ht⟩ : ∃ t, cmpI (a.size : Int) (b.size : Int) = t := ⟨_, rfl⟩
      have HE : Hid (orL [cmpI a.size b.size, cmpT a b] = orL [t, r]) := by show _ = _; rw [hr, ht]
      rw [hr] at q3
      rw [ht] at q4
      clear hr ht
      obtain ⟨z, hz⟩ : ∃ z, orL [t, r] = z := ⟨_, rfl⟩
      have hsl : Sl (w2.alloc (.cells #[.int .i64 t, .int .i64 r] 3)) (.slice (some ⟨w2.heap.size, 0, none⟩) 2 2) (is64 [t, r]) := by
        refine ⟨some ⟨w2.heap.size, 0, none⟩, 2, rfl, Nat.le_refl _, fun h => (by cases h), fun _ => ⟨w2.heap.size, 0, rfl, fun j hj => ?_⟩⟩
        rw [Nat.zero_add, cell_of_row _ w2.heap.size j #[.int .i64 t, .int .i64 r] 3 (0, 0) (heap_alloc_new w2 _)]
        simp [is64]
      have q5 := or_impl _ _ _ hsl (by simp)
      rw [hz] at q5
      have HZ : Hid (orL [t, r] = z) := hz
      have hb3 : Below w.heap.size w (w2.alloc (.cells #[.int .i64 t, .int .i64 r] 3)) := hb2.alloc hs2 _
      clear hz hsl
      go_wp2_with (first | (go_at_call 123; refine q3.mono ?_; rintro e w' ⟨rfl, rfl⟩) | (go_at_call 83; refine q4.mono ?_; rintro e w' ⟨rfl, rfl⟩) | (go_at_call 82; refine q5.mono ?_; rintro e w' ⟨rfl, rfl⟩))
      go_ret
      exact ⟨by rw [HN.out, HE.out, HZ.out]; rfl, hb3⟩

end Go.Proofs.YtlhmemnaiobgkaaGreatDoor.Ver

/- Chapter 3, the landed code: lists of parts compared; which of two versions is less. -/
namespace Go.Proofs.YtlhmemnaiobgkaaGreatDoor.Ver
open Go.RowKit Go.Proofs.YtlhmemnaiobgkaaGreatDoor.Mem Go.Proofs.YtlhmemnaiobgkaaGreatDoor.Laws Go.Proofs.YtlhmemnaiobgkaaGreatDoor.Bytes Go.Proofs.YtlhmemnaiobgkaaGreatDoor.Sha
set_option linter.unusedVariables false
set_option linter.unusedSimpArgs false

theorem drop_str {T : List ByteArray} {k : Nat} {t : ByteArray} (h : T[k]? = some t) : T.drop k = t :: T.drop (k + 1) := by
  obtain ⟨hk, rfl⟩ := List.getElem?_eq_some_iff.1 h
  rw [List.drop_eq_getElem_cons hk]

set_option maxRecDepth 1000000 in
set_option maxHeartbeats 1000000 in
theorem cmpf_impl (w : World) (v1 v2 : Value) (T1 T2 : List ByteArray) (h1 : Sl w v1 (ss T1)) (h2 : Sl w v2 (ss T2)) (l1 : T1.length ≤ 1000000000001) (l2 : T2.length ≤ 1000000000001)
    (z1 : ∀ t ∈ T1, t.size ≤ 1000000000000) (z2 : ∀ t ∈ T2, t.size ≤ 1000000000000) :
    Calls Tryz.prog 103 #[v1, v2, .func (.func 105) #[] #[]] w fun e w' => e = .returned (.int .i64 (cmpL T1 T2)) ∧ Below w.heap.size w w' := by
  obtain ⟨ao1, cap1, rfl, hc1, hn1, hr1⟩ := h1
  obtain ⟨ao2, cap2, rfl, hc2, hn2, hr2⟩ := h2
  rw [ss_len] at hc1 hr1 hc2 hr2
  rw [ss_len, ss_len]
  have HR1 : Hid (0 < T1.length → ∃ b off, ao1 = some ⟨b, off, none⟩ ∧ ∀ j, j < T1.length → w.cell? ⟨b, off + j, none⟩ = (ss T1)[j]?) := hr1
  have HR2 : Hid (0 < T2.length → ∃ b off, ao2 = some ⟨b, off, none⟩ ∧ ∀ j, j < T2.length → w.cell? ⟨b, off + j, none⟩ = (ss T2)[j]?) := hr2
  have HZ1 : Hid (∀ t ∈ T1, t.size ≤ 1000000000000) := z1
  have HZ2 : Hid (∀ t ∈ T2, t.size ≤ 1000000000000) := z2
  clear hr1 hn1 hr2 hn2 z1 z2
  go_enter Tryz.func103, Tryz.ntmps103
  go_wp2
  go_loopw [13] (fun i wr => ∃ k : Nat, k ≤ T1.length ∧ k ≤ T2.length ∧ i = .int .i64 (k : Int) ∧ Hid (cmpL T1 T2 = cmpL (T1.drop k) (T2.drop k)) ∧ Below w.heap.size w wr) (fun i _ => T1.length - (intOf i).toNat)
  case atStart => exact ⟨0, Nat.zero_le _, Nat.zero_le _, rfl, rfl, Below.refl _ _⟩
  case round =>
    obtain ⟨k, hk, hk2, rfl, HA, hb⟩ := hrel
    have hsz := hb.size
    by_cases hlt : k < T1.length
    · obtain ⟨b1, off1, rfl, hcell1⟩ := HR1.out (by omega)
      obtain ⟨t, ht⟩ : ∃ x, T1[k]? = some x := ⟨T1[k], by simp [hlt]⟩
      have hc0 : w.cell? ⟨b1, off1 + k, none⟩ = some (.string t) := by rw [hcell1 k hlt, ss_get, ht]; rfl
      have hcell : wr.cell? ⟨b1, off1 + k, none⟩ = some (.string t) := by rw [hb.cell (World.block_lt_of_cell? w _ hc0)]; exact hc0
      have hd := drop_str ht
      have htz := HZ1.out t (List.mem_of_getElem? ht)
      clear hcell1 hc0 ht HR1
      by_cases hlt2 : k < T2.length
      · obtain ⟨b2, off2, rfl, hcell2⟩ := HR2.out (by omega)
        obtain ⟨u, hu⟩ : ∃ x, T2[k]? = some x := ⟨T2[k], by simp [hlt2]⟩
        have hc0 : w.cell? ⟨b2, off2 + k, none⟩ = some (.string u) := by rw [hcell2 k hlt2, ss_get, hu]; rfl
        have hcell' : wr.cell? ⟨b2, off2 + k, none⟩ = some (.string u) := by rw [hb.cell (World.block_lt_of_cell? w _ hc0)]; exact hc0
        have hd2 := drop_str hu
        have huz := HZ2.out u (List.mem_of_getElem? hu)
        have HO : Hid (cmpL T1 T2 = if cmpPart t u = 0 then cmpL (T1.drop (k + 1)) (T2.drop (k + 1)) else cmpPart t u) := by show _ = _; rw [HA.out, hd, hd2, cmpL]
        have q := cpart_impl wr t u htz huz
        obtain ⟨x, hx⟩ : ∃ x, cmpPart t u = x := ⟨_, rfl⟩
        rw [hx] at q HO
        clear hx hcell2 hc0 hu hd hd2 HR2
        by_cases h0 : x = 0
        · have d0 : (x != 0) = false := by simpa using h0
          have HN : Hid (cmpL T1 T2 = cmpL (T1.drop (k + 1)) (T2.drop (k + 1))) := by show _ = _; rw [HO.out, if_pos h0]
          clear h0
          go_wp2_with (go_at_call 105; refine q.mono ?_; rintro e w' ⟨rfl, bq⟩)
          go_roundw
          case rel => exact ⟨k + 1, by omega, by omega, by go_num, HN, hb.trans (bq.mono hsz)⟩
          case measure => simp [intOf]; omega
        · have d0 : (x != 0) = true := by simpa using h0
          have HN : Hid (cmpL T1 T2 = x) := by show _ = _; rw [HO.out, if_neg h0]
          clear h0
          go_wp2_with (go_at_call 105; refine q.mono ?_; rintro e w' ⟨rfl, bq⟩)
          go_ret
          exact ⟨by rw [HN.out]; rfl, hb.trans (bq.mono hsz)⟩
      · have HN : Hid (cmpL T1 T2 = 1) := by
          show _ = _
          rw [HA.out, hd, List.drop_eq_nil_of_le (show T2.length ≤ k by omega), cmpL]
        clear hd
        go_wp2
        go_ret
        exact ⟨by rw [HN.out]; rfl, hb⟩
    · have hke : k = T1.length := by omega
      by_cases hlt2 : T1.length < T2.length
      · have HN : Hid (cmpL T1 T2 = -1) := by
          show _ = _
          obtain ⟨u, hu⟩ : ∃ x, T2[k]? = some x := ⟨T2[k], by simp [hke, hlt2]⟩
          rw [HA.out, List.drop_eq_nil_of_le (show T1.length ≤ k by omega), drop_str hu, cmpL]
        clear hke
        go_wp2
        go_ret
        exact ⟨by rw [HN.out]; rfl, hb⟩
      · have HN : Hid (cmpL T1 T2 = 0) := by
          show _ = _
          rw [HA.out, List.drop_eq_nil_of_le (show T1.length ≤ k by omega), List.drop_eq_nil_of_le (show T2.length ≤ k by omega), cmpL]
        clear hke
        go_wp2
        go_ret
        exact ⟨by rw [HN.out]; rfl, hb⟩

set_option maxRecDepth 1000000 in
set_option maxHeartbeats 1000000 in
theorem cpre_impl (w : World) (a b : ByteArray) (ha : a.size ≤ 1000000000000) (hb : b.size ≤ 1000000000000) :
    Calls Tryz.prog 84 #[.string a, .string b] w fun e w' => e = .returned (.int .i64 (cmpPre a b)) ∧ Below w.heap.size w w' := by
  obtain ⟨x, hx⟩ : ∃ x, eqT a b = x := ⟨_, rfl⟩
  have hx' : (a.toList == b.toList) = x := hx
  have HC : Hid (cmpPre a b = if x = true then 0 else if a.size = 0 then 1 else if b.size = 0 then -1 else cmpL (splitT 46 a) (splitT 46 b)) := by
    show _ = _
    unfold cmpPre
    rw [hx]
  clear hx
  have ea := toList_empty a
  have eb := toList_empty b
  cases x
  · by_cases h0 : a.size = 0
    · have HN : Hid (cmpPre a b = 1) := by show _ = _; rw [HC.out]; simp [h0]
      rw [decide_eq_true h0] at ea
      clear h0 eb
      go_enter Tryz.func84, Tryz.ntmps84
      go_wp2
      go_ret
      exact ⟨by rw [HN.out]; rfl, Below.refl _ _⟩
    · rw [decide_eq_false h0] at ea
      by_cases h1 : b.size = 0
      · have HN : Hid (cmpPre a b = -1) := by show _ = _; rw [HC.out]; simp [h0, h1]
        rw [decide_eq_true h1] at eb
        clear h0 h1
        go_enter Tryz.func84, Tryz.ntmps84
        go_wp2
        go_ret
        exact ⟨by rw [HN.out]; rfl, Below.refl _ _⟩
      · have HN : Hid (cmpPre a b = cmpL (splitT 46 a) (splitT 46 b)) := by show _ = _; rw [HC.out]; simp [h0, h1]
        rw [decide_eq_false h1] at eb
        clear h0 h1 HC
        go_enter Tryz.func84, Tryz.ntmps84
        go_wp2_with fail
        refine (parts_impl w a 46 (by omega) (by omega) ha).mono ?_
        rintro e w1 ⟨v1, rfl, o1, b1⟩
        go_wp2_with fail
        refine (parts_impl w1 b 46 (by omega) (by omega) hb).mono ?_
        rintro e w2 ⟨v2, rfl, o2, b2⟩
        have hb2 : Below w.heap.size w w2 := b1.trans (b2.mono b1.size)
        have s1 : Sl w2 v1 (ss (splitT 46 a)) := o1.sl.later b2
        have s2 : Sl w2 v2 (ss (splitT 46 b)) := o2.sl
        have l1 := splitT_len 46 a
        have l2 := splitT_len 46 b
        have q := cmpf_impl w2 v1 v2 _ _ s1 s2 (by omega) (by omega) (fun t ht => Nat.le_trans (splitT_size 46 a t ht) ha) (fun t ht => Nat.le_trans (splitT_size 46 b t ht) hb)
        obtain ⟨r, hr⟩ : ∃ r, cmpL (splitT 46 a) (splitT 46 b) = r := ⟨_, rfl⟩
        rw [hr] at q
        have HR : Hid (cmpL (splitT 46 a) (splitT 46 b) = r) := hr
        clear hr s1 s2 l1 l2 o1 o2
        go_wp2_with (go_at_call 103; refine q.mono ?_; rintro e w3 ⟨rfl, b3⟩)
        go_ret
        exact ⟨by rw [HN.out, HR.out]; rfl, hb2.trans (b3.mono hb2.size)⟩
  · have HN : Hid (cmpPre a b = 0) := by show _ = _; rw [HC.out]; rfl
    clear ea eb
    go_enter Tryz.func84, Tryz.ntmps84
    go_wp2
    go_ret
    exact ⟨by rw [HN.out]; rfl, Below.refl _ _⟩

end Go.Proofs.YtlhmemnaiobgkaaGreatDoor.Ver

/- Chapter 3, the landed code: which of two versions is less. -/
namespace Go.Proofs.YtlhmemnaiobgkaaGreatDoor.Ver
open Go.RowKit Go.Proofs.YtlhmemnaiobgkaaGreatDoor.Mem Go.Proofs.YtlhmemnaiobgkaaGreatDoor.Laws Go.Proofs.YtlhmemnaiobgkaaGreatDoor.Bytes Go.Proofs.YtlhmemnaiobgkaaGreatDoor.Sha
set_option linter.unusedVariables false
set_option linter.unusedSimpArgs false

theorem orCall (W : World) (x1 x2 x3 x4 z : Int) (hz : orL [x1, x2, x3, x4] = z) : Calls Tryz.prog 82 #[.slice (some ⟨W.heap.size, 0, none⟩) 4 4] (W.alloc (.cells #[.int .i64 x1, .int .i64 x2, .int .i64 x3, .int .i64 x4] 3))
    fun e w' => e = .returned (.int .i64 z) ∧ w' = (W.alloc (.cells #[.int .i64 x1, .int .i64 x2, .int .i64 x3, .int .i64 x4] 3)) := by
  have hsl : Sl (W.alloc (.cells #[.int .i64 x1, .int .i64 x2, .int .i64 x3, .int .i64 x4] 3)) (.slice (some ⟨W.heap.size, 0, none⟩) 4 4) (is64 [x1, x2, x3, x4]) := by
    refine ⟨some ⟨W.heap.size, 0, none⟩, 4, rfl, Nat.le_refl _, fun h => (by cases h), fun _ => ⟨W.heap.size, 0, rfl, fun j hj => ?_⟩⟩
    rw [Nat.zero_add, cell_of_row _ W.heap.size j #[.int .i64 x1, .int .i64 x2, .int .i64 x3, .int .i64 x4] 3 (0, 0) (heap_alloc_new W _)]
    simp [is64]
  refine (or_impl _ _ _ hsl (by simp)).mono ?_
  rintro e w' ⟨rfl, rfl⟩
  exact ⟨by rw [hz], rfl⟩

set_option maxRecDepth 1000000 in
set_option maxHeartbeats 2000000 in
theorem cver_impl (w : World) (a1 b1 c1 : Int) (p1 : ByteArray) (a2 b2 c2 : Int) (p2 : ByteArray) (h1 : p1.size ≤ 1000000000000) (h2 : p2.size ≤ 1000000000000) :
    Calls Tryz.prog 55 #[ver a1 b1 c1 p1, ver a2 b2 c2 p2] w fun e w' => e = .returned (.int .i64 (cmpV a1 b1 c1 p1 a2 b2 c2 p2)) ∧ Below w.heap.size w w' := by
  unfold ver
  obtain ⟨z, hz⟩ : ∃ z, cmpV a1 b1 c1 p1 a2 b2 c2 p2 = z := ⟨_, rfl⟩
  rw [hz]
  unfold cmpV at hz
  obtain ⟨x1, hx1⟩ : ∃ z, cmpI a1 a2 = z := ⟨_, rfl⟩
  obtain ⟨x2, hx2⟩ : ∃ z, cmpI b1 b2 = z := ⟨_, rfl⟩
  obtain ⟨x3, hx3⟩ : ∃ z, cmpI c1 c2 = z := ⟨_, rfl⟩
  obtain ⟨x4, hx4⟩ : ∃ z, cmpPre p1 p2 = z := ⟨_, rfl⟩
  have q1 := fun W => compare_int W a1 a2
  have q2 := fun W => compare_int W b1 b2
  have q3 := fun W => compare_int W c1 c2
  have q4 := fun W => cpre_impl W p1 p2 h1 h2
  rw [hx1] at hz q1
  rw [hx2] at hz q2
  rw [hx3] at hz q3
  rw [hx4] at hz q4
  have q5 := fun W => orCall W x1 x2 x3 x4 z hz
  have f0 : Vr ((w.alloc (.cells #[.int .i64 a1, .int .i64 b1, .int .i64 c1, .string p1] 32)).alloc (.cells #[.int .i64 a2, .int .i64 b2, .int .i64 c2, .string p2] 32)) w.heap.size a1 b1 c1 p1 := heap_alloc2_old w _ _
  have f1 : Vr ((w.alloc (.cells #[.int .i64 a1, .int .i64 b1, .int .i64 c1, .string p1] 32)).alloc (.cells #[.int .i64 a2, .int .i64 b2, .int .i64 c2, .string p2] 32)) (w.heap.size + 1) a2 b2 c2 p2 := heap_alloc2_new w _ _
  obtain ⟨y0, y1, y2, y3⟩ := Vr.cells f0
  obtain ⟨z0, z1, z2, z3⟩ := Vr.cells f1
  have HB : Hid (Below w.heap.size w ((w.alloc (.cells #[.int .i64 a1, .int .i64 b1, .int .i64 c1, .string p1] 32)).alloc (.cells #[.int .i64 a2, .int .i64 b2, .int .i64 c2, .string p2] 32))) := ((Below.refl _ _).alloc (Nat.le_refl _) _).alloc (by simp) _
  clear hx1 hx2 hx3 hx4 hz f0 f1
  go_enter Tryz.func55, Tryz.ntmps55
  go_wp2_with fail
  go_region_held3 (fun w' => w'.cell? ⟨w.heap.size, 0, none⟩ = some (.int .i64 a1) ∧ w'.cell? ⟨w.heap.size, 1, none⟩ = some (.int .i64 b1) ∧ w'.cell? ⟨w.heap.size, 2, none⟩ = some (.int .i64 c1) ∧ w'.cell? ⟨w.heap.size, 3, none⟩ = some (.string p1) ∧ w'.cell? ⟨w.heap.size + 1, 0, none⟩ = some (.int .i64 a2) ∧ w'.cell? ⟨w.heap.size + 1, 1, none⟩ = some (.int .i64 b2) ∧ w'.cell? ⟨w.heap.size + 1, 2, none⟩ = some (.int .i64 c2) ∧ w'.cell? ⟨w.heap.size + 1, 3, none⟩ = some (.string p2))
    (first | go_keep | (go_split_ands; refine ⟨keepCell ?_ bb5, keepCell ?_ bb5, keepCell ?_ bb5, keepCell ?_ bb5, keepCell ?_ bb5, keepCell ?_ bb5, keepCell ?_ bb5, keepCell ?_ bb5⟩ <;> assumption))
    (first | (go_at_call_of 83 a1; refine (q1 _).mono ?_; rintro e w' ⟨rfl, rfl⟩) | (go_at_call_of 83 b1; refine (q2 _).mono ?_; rintro e w' ⟨rfl, rfl⟩) | (go_at_call_of 83 c1; refine (q3 _).mono ?_; rintro e w' ⟨rfl, rfl⟩) | (go_at_call 84; refine (q4 _).mono ?_; rintro e5 w5 ⟨rfl, bb5⟩) | (go_at_call 82; refine (q5 _).mono ?_; rintro e6 w6 ⟨rfl, rfl⟩))
  have B1 := HB.out
  have B5 : Below w.heap.size w w5 := (Below.drew B1).trans (bb5.mono B1.size)
  have B6 := B5.alloc B5.size (.cells #[.int .i64 x1, .int .i64 x2, .int .i64 x3, .int .i64 x4] 3)
  clear y0 y1 y2 y3 z0 z1 z2 z3 q1 q2 q3 q4 q5 B1 B5 bb5
  go_wp2
  go_ret
  exact ⟨rfl, B6⟩

set_option maxRecDepth 1000000 in
set_option maxHeartbeats 1000000 in
theorem less_impl (w : World) (a1 b1 c1 : Int) (p1 : ByteArray) (a2 b2 c2 : Int) (p2 : ByteArray) (h1 : p1.size ≤ 1000000000000) (h2 : p2.size ≤ 1000000000000) :
    Calls Tryz.prog 22 #[ver a1 b1 c1 p1, ver a2 b2 c2 p2] w fun e w' => e = .returned (.bool (decide (cmpV a1 b1 c1 p1 a2 b2 c2 p2 < 0))) ∧ Below w.heap.size w w' := by
  have q := cver_impl ((w.alloc (.cells #[.int .i64 a1, .int .i64 b1, .int .i64 c1, .string p1] 32)).alloc (.cells #[.int .i64 a2, .int .i64 b2, .int .i64 c2, .string p2] 32)) a1 b1 c1 p1 a2 b2 c2 p2 h1 h2
  have HB : Hid (Below w.heap.size w ((w.alloc (.cells #[.int .i64 a1, .int .i64 b1, .int .i64 c1, .string p1] 32)).alloc (.cells #[.int .i64 a2, .int .i64 b2, .int .i64 c2, .string p2] 32))) := ((Below.refl _ _).alloc (Nat.le_refl _) _).alloc (by simp) _
  obtain ⟨z, hz⟩ : ∃ z, cmpV a1 b1 c1 p1 a2 b2 c2 p2 = z := ⟨_, rfl⟩
  rw [hz] at q ⊢
  clear hz
  unfold ver at q ⊢
  go_enter Tryz.func22, Tryz.ntmps22
  go_wp2_with (go_at_call 55; refine q.mono ?_; rintro e w5 ⟨rfl, b5⟩)
  go_ret
  exact ⟨rfl, HB.out.trans (b5.mono HB.out.size)⟩

end Go.Proofs.YtlhmemnaiobgkaaGreatDoor.Ver
