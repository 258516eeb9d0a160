/- Texts in one: Se6, Se8, Fh2, EntR, Fg4, Fh3, Fg2, Fg3, EntU. -/
import Derived.Test.YtlhmemnaiobgkaaPk8
import Derived.Test.YtlhmemnaiobgkaaPk5
import Derived.Test.YtlhmemnaiobgkaaPk18
import Derived.Test.YtlhmemnaiobgkaaPk17
import Derived.Test.YtlhmemnaiobgkaaPk15
import Derived.Test.YtlhmemnaiobgkaaPk14
import Derived.Test.YtlhmemnaiobgkaaPk12
/- Chapter 16, the specification's side: does a list cover needs. -/
namespace Go.Proofs.Ytlhmemnaiobgkaa.Se
open Go.RowKit Go.Proofs.Ytlhmemnaiobgkaa.Mem Go.Proofs.Ytlhmemnaiobgkaa.Laws Go.Proofs.Ytlhmemnaiobgkaa.Ver Go.Proofs.Ytlhmemnaiobgkaa.Ent Go.Proofs.Ytlhmemnaiobgkaa.Fe
set_option linter.unusedVariables false
set_option linter.unusedSimpArgs false

theorem covers16_no {list needs : List Nd} {q : Nd} {j : Nat} (h : needs[j]? = some q) (hn : list.any (cov1 q) = false) : covers16 list needs = false := by
  unfold covers16
  rw [List.all_eq_false]
  exact ⟨q, List.mem_of_getElem? h, by rw [hn]; decide⟩
theorem covers16_yes {list needs : List Nd} (h : ∀ q ∈ needs, list.any (cov1 q) = true) : covers16 list needs = true := by
  unfold covers16
  rw [List.all_eq_true]
  exact h
theorem any_snoc16 {l : List Nd} {k : Nat} {x : Nd} (f : Nd → Bool) (h : l[k]? = some x) : (l.take (k + 1)).any f = ((l.take k).any f || f x) := by
  rw [take_snoc15 h, List.any_append]
  simp

set_option maxRecDepth 1000000 in
set_option maxHeartbeats 4000000 in
theorem covers_spec (w : World) (v1 v2 : Value) (l s : List Nd) (h1 : Sd w v1 l) (h2 : Sd w v2 s) (hl : l.length ≤ 1000000000000) (hs : s.length ≤ 1000000000000) (hz1 : ∀ x ∈ l, x.pre.size ≤ 1000000000000) (hz2 : ∀ x ∈ s, x.pre.size ≤ 1000000000000) :
    Calls Try.prog 8 #[v1, v2] w fun e w' => e = .returned (.bool (covers16 l s)) ∧ Below w.heap.size w w' := by
  have HS1 : Hid (Sd w v1 l) := h1
  have HS2 : Hid (Sd w v2 s) := h2
  obtain ⟨_, ao, cap, rfl, hcap, _, _⟩ := h1
  obtain ⟨_, ao2, cap2, rfl, hcap2, _, _⟩ := h2
  have B0 : Hid (Below w.heap.size w w) := Below.refl _ _
  go_enter Try.func8, Try.ntmps8
  go_wp2_with fail
  go_loopw [5] (fun i wr => ∃ j : Nat, j ≤ s.length ∧ i = .int .i64 (j : Int) ∧ Hid (∀ y ∈ s.take j, l.any (cov1 y) = true) ∧ Hid (Below w.heap.size w wr)) (fun i _ => s.length - (intOf i).toNat)
  case atStart => exact ⟨0, Nat.zero_le _, rfl, (fun x hx => by simp at hx), B0⟩
  case round =>
    obtain ⟨j, hj, rfl, HN, B1⟩ := hrel
    obtain ⟨W1, hW1⟩ : ∃ X, X = wr := ⟨_, rfl⟩
    subst hW1
    by_cases hjt : j < s.length
    · have hjt2 : (j : Int) < (s.length : Int) := by omega
      obtain ⟨q, hq⟩ : ∃ q, s[j]? = some q := ⟨s[j], by simp [hjt]⟩
      have HQ : Hid (s[j]? = some q) := hq
      have hqp := hz2 q (List.mem_of_getElem? hq)
      clear hq
      go_wp2_with fail
      go_loopw [6, 7] (fun hb i wr => ∃ (k : Nat) (hv : Bool), k ≤ l.length ∧ i = .int .i64 (k : Int) ∧ hb = .bool hv ∧ Hid ((l.take k).any (cov1 q) = hv) ∧ Hid (Below w.heap.size w wr)) (fun _ i _ => l.length - (intOf i).toNat)
      case atStart => exact ⟨0, false, Nat.zero_le _, rfl, rfl, (by show _ = _; simp), B1⟩
      case round =>
        obtain ⟨k, hv, hk, rfl, rfl, HV, B2⟩ := hrel
        obtain ⟨W2, hW2⟩ : ∃ X, X = wr := ⟨_, rfl⟩
        subst hW2
        clear B1
        by_cases hlt : k < l.length
        · have hlt2 : (k : Int) < (l.length : Int) := by omega
          obtain ⟨x, hx⟩ : ∃ x, l[k]? = some x := ⟨l[k], by simp [hlt]⟩
          obtain ⟨b1, off1, cap8, he, _, m0, m1, m2, m3, m4⟩ := Sd.at (HS1.out.later B2.out) hx
          simp only [Value.slice.injEq] at he
          obtain ⟨rfl, _, rfl⟩ := he
          obtain ⟨b2_, off2, cap9, he, _, p0, p1, p2, p3, p4⟩ := Sd.at (HS2.out.later B2.out) HQ.out
          simp only [Value.slice.injEq] at he
          obtain ⟨rfl, _, rfl⟩ := he
          have HX : Hid (l[k]? = some x) := hx
          have hxp := hz1 x (List.mem_of_getElem? hx)
          clear hx
          obtain ⟨P, hP⟩ : ∃ P, (x.path.toList == q.path.toList) = P := ⟨_, rfl⟩
          obtain ⟨V, hV⟩ : ∃ V, lessV x.a x.b x.c x.pre q.a q.b q.c q.pre = V := ⟨_, rfl⟩
          have HI : Hid (cov1 q x = (P && !V)) := by show cov1 _ _ = _; unfold cov1 eqT lv; rw [hP, hV]
          have q1 : ∀ W, _ := fun W => less_spec W x.a x.b x.c x.pre q.a q.b q.c q.pre hxp hqp
          simp only [hV] at q1
          clear hV
          cases hv
          · cases P
            · go_wp2_with fail
              refine wp_region_held_drew (S := fun w' => w'.cell? ⟨b1, off1 + k * 5, none⟩ = some (.string x.path) ∧ w'.cell? ⟨b1, off1 + k * 5 + 1, none⟩ = some (.int .i64 x.a) ∧ w'.cell? ⟨b1, off1 + k * 5 + 2, none⟩ = some (.int .i64 x.b) ∧ w'.cell? ⟨b1, off1 + k * 5 + 3, none⟩ = some (.int .i64 x.c) ∧ w'.cell? ⟨b1, off1 + k * 5 + 4, none⟩ = some (.string x.pre) ∧ w'.cell? ⟨b2_, off2 + j * 5, none⟩ = some (.string q.path) ∧ w'.cell? ⟨b2_, off2 + j * 5 + 1, none⟩ = some (.int .i64 q.a) ∧ w'.cell? ⟨b2_, off2 + j * 5 + 2, none⟩ = some (.int .i64 q.b) ∧ w'.cell? ⟨b2_, off2 + j * 5 + 3, none⟩ = some (.int .i64 q.c) ∧ w'.cell? ⟨b2_, off2 + j * 5 + 4, none⟩ = some (.string q.pre)) (by kernel_rfl) ⟨m0, m1, m2, m3, m4, p0, p1, p2, p3, p4⟩ (fun hHeld => ?_)
              refine Ke.y 0 rfl (fun _ _ _ h => h) ?_
              try simp only [Act.put, pu1, pu2, pu3, pu4, pu5, pu6]
              refine Ke.y 1 rfl (fun _ _ _ h => h) ?_
              try simp only [Act.put, pu1, pu2, pu3, pu4, pu5, pu6]
              refine Ke.y 2 rfl (fun _ _ _ h => h) ?_
              try simp only [Act.put, pu1, pu2, pu3, pu4, pu5, pu6]
              refine Ke.y 3 rfl (fun _ _ _ h => h) ?_
              try simp only [Act.put, pu1, pu2, pu3, pu4, pu5, pu6]
              refine Ke.y 4 rfl (fun _ _ _ h => h) ?_
              try simp only [Act.put, pu1, pu2, pu3, pu4, pu5, pu6]
              refine Ke.y 5 rfl (fun _ _ _ h => h) ?_
              try simp only [Act.put, pu1, pu2, pu3, pu4, pu5, pu6]
              refine Ke.y 6 rfl (fun _ _ _ h => h) ?_
              try simp only [Act.put, pu1, pu2, pu3, pu4, pu5, pu6]
              refine Ke.y 7 rfl (fun _ _ _ h => h) ?_
              try simp only [Act.put, pu1, pu2, pu3, pu4, pu5, pu6]
              refine Ke.y 8 rfl (fun _ _ _ h => h) ?_
              try simp only [Act.put, pu1, pu2, pu3, pu4, pu5, pu6]
              refine Ke.y 9 rfl (fun _ _ _ h => h) ?_
              try simp only [Act.put, pu1, pu2, pu3, pu4, pu5, pu6]
              refine Ke.y 10 rfl (fun _ _ _ h => h) ?_
              try simp only [Act.put, pu1, pu2, pu3, pu4, pu5, pu6]
              refine Ke.y 11 rfl (fun _ _ _ h => h) ?_
              try simp only [Act.put, pu1, pu2, pu3, pu4, pu5, pu6]
              refine Ke.y 12 rfl (fun _ _ _ h => h) ?_
              try simp only [Act.put, pu1, pu2, pu3, pu4, pu5, pu6]
              refine Ke.y 13 rfl (fun _ _ _ h => h) ?_
              try simp only [Act.put, pu1, pu2, pu3, pu4, pu5, pu6]
              refine Ke.x 14 rfl (fun _ _ _ h => h) ?_
              try simp only [Act.put, pu1, pu2, pu3, pu4, pu5, pu6]
              refine Ke.x 15 rfl (fun _ _ _ h => h) ?_
              try simp only [Act.put, pu1, pu2, pu3, pu4, pu5, pu6]
              refine Ke.x 16 rfl (fun _ _ _ h => h) ?_
              try simp only [Act.put, pu1, pu2, pu3, pu4, pu5, pu6]
              refine Ke.x 17 rfl (fun _ _ _ h => h) ?_
              try simp only [Act.put, pu1, pu2, pu3, pu4, pu5, pu6]
              refine Ke.x 18 rfl (fun _ _ _ h => h) ?_
              try simp only [Act.put, pu1, pu2, pu3, pu4, pu5, pu6]
              refine Ke.x 19 rfl (fun _ _ _ h => h) ?_
              try simp only [Act.put, pu1, pu2, pu3, pu4, pu5, pu6]
              refine Ke.x 20 rfl (fun _ _ _ h => h) ?_
              try simp only [Act.put, pu1, pu2, pu3, pu4, pu5, pu6]
              refine Ke.x 21 rfl (fun _ _ _ h => h) ?_
              try simp only [Act.put, pu1, pu2, pu3, pu4, pu5, pu6]
              refine Ke.x 22 rfl (fun _ _ _ h => h) ?_
              try simp only [Act.put, pu1, pu2, pu3, pu4, pu5, pu6]
              refine Ke.x 23 rfl (fun _ _ _ h => h) ?_
              try simp only [Act.put, pu1, pu2, pu3, pu4, pu5, pu6]
              refine Ke.x 24 rfl (fun _ _ _ h => h) ?_
              try simp only [Act.put, pu1, pu2, pu3, pu4, pu5, pu6]
              refine Ke.x 25 rfl (fun _ _ _ h => h) ?_
              try simp only [Act.put, pu1, pu2, pu3, pu4, pu5, pu6]
              refine Ke.y 26 rfl (fun _ _ _ h => h) ?_
              try simp only [Act.put, pu1, pu2, pu3, pu4, pu5, pu6]
              refine Ke.y 27 rfl (fun _ _ _ h => h) ?_
              try simp only [Act.put, pu1, pu2, pu3, pu4, pu5, pu6]
              refine Ke.y 28 rfl (fun _ _ _ h => h) ?_
              try simp only [Act.put, pu1, pu2, pu3, pu4, pu5, pu6]
              refine wpAnyH_done (by kernel_rfl) ?_ _
              clear hHeld
              obtain ⟨W3, HW3, b3⟩ : ∃ X, Hid (W2.drew = X) ∧ Below W2.heap.size W2 X := ⟨_, rfl, Below.drew (Below.refl _ _)⟩
              rw [HW3.out]
              have z3 := b3.size
              have B3 := Ke.b B2 b3
              go_wp2
              go_roundw
              case rel => exact ⟨k + 1, false, by omega, by go_num, rfl, (by show _ = _; rw [any_snoc16 _ HX.out, HV.out, HI.out]; first | rfl | simp), B3⟩
              case measure => simp [intOf]; omega
            · go_wp2_with fail
              refine wp_region_held_drew (S := fun w' => w'.cell? ⟨b1, off1 + k * 5, none⟩ = some (.string x.path) ∧ w'.cell? ⟨b1, off1 + k * 5 + 1, none⟩ = some (.int .i64 x.a) ∧ w'.cell? ⟨b1, off1 + k * 5 + 2, none⟩ = some (.int .i64 x.b) ∧ w'.cell? ⟨b1, off1 + k * 5 + 3, none⟩ = some (.int .i64 x.c) ∧ w'.cell? ⟨b1, off1 + k * 5 + 4, none⟩ = some (.string x.pre) ∧ w'.cell? ⟨b2_, off2 + j * 5, none⟩ = some (.string q.path) ∧ w'.cell? ⟨b2_, off2 + j * 5 + 1, none⟩ = some (.int .i64 q.a) ∧ w'.cell? ⟨b2_, off2 + j * 5 + 2, none⟩ = some (.int .i64 q.b) ∧ w'.cell? ⟨b2_, off2 + j * 5 + 3, none⟩ = some (.int .i64 q.c) ∧ w'.cell? ⟨b2_, off2 + j * 5 + 4, none⟩ = some (.string q.pre)) (by kernel_rfl) ⟨m0, m1, m2, m3, m4, p0, p1, p2, p3, p4⟩ (fun hHeld => ?_)
              obtain ⟨W3, HW3, b3⟩ : ∃ X, Hid (W2.drew = X) ∧ Below W2.heap.size W2 X := ⟨_, rfl, Below.drew (Below.refl _ _)⟩
              have HHW3 := HW3.out
              rw [HHW3] at hHeld ⊢
              clear HHW3
              have z3 := b3.size
              have B3 := Ke.b B2 b3
              refine Ke.y 0 rfl (fun _ _ _ h => h) ?_
              try simp only [Act.put, pu1, pu2, pu3, pu4, pu5, pu6]
              refine Ke.y 1 rfl (fun _ _ _ h => h) ?_
              try simp only [Act.put, pu1, pu2, pu3, pu4, pu5, pu6]
              refine Ke.y 2 rfl (fun _ _ _ h => h) ?_
              try simp only [Act.put, pu1, pu2, pu3, pu4, pu5, pu6]
              refine Ke.y 3 rfl (fun _ _ _ h => h) ?_
              try simp only [Act.put, pu1, pu2, pu3, pu4, pu5, pu6]
              refine Ke.y 4 rfl (fun _ _ _ h => h) ?_
              try simp only [Act.put, pu1, pu2, pu3, pu4, pu5, pu6]
              refine Ke.y 5 rfl (fun _ _ _ h => h) ?_
              try simp only [Act.put, pu1, pu2, pu3, pu4, pu5, pu6]
              refine Ke.y 6 rfl (fun _ _ _ h => h) ?_
              try simp only [Act.put, pu1, pu2, pu3, pu4, pu5, pu6]
              refine Ke.y 7 rfl (fun _ _ _ h => h) ?_
              try simp only [Act.put, pu1, pu2, pu3, pu4, pu5, pu6]
              refine Ke.y 8 rfl (fun _ _ _ h => h) ?_
              try simp only [Act.put, pu1, pu2, pu3, pu4, pu5, pu6]
              refine Ke.y 9 rfl (fun _ _ _ h => h) ?_
              try simp only [Act.put, pu1, pu2, pu3, pu4, pu5, pu6]
              refine Ke.y 10 rfl (fun _ _ _ h => h) ?_
              try simp only [Act.put, pu1, pu2, pu3, pu4, pu5, pu6]
              refine Ke.y 11 rfl (fun _ _ _ h => h) ?_
              try simp only [Act.put, pu1, pu2, pu3, pu4, pu5, pu6]
              refine Ke.y 12 rfl (fun _ _ _ h => h) ?_
              try simp only [Act.put, pu1, pu2, pu3, pu4, pu5, pu6]
              refine Ke.y 13 rfl (fun _ _ _ h => h) ?_
              try simp only [Act.put, pu1, pu2, pu3, pu4, pu5, pu6]
              refine Ke.y 14 rfl (fun _ _ _ h => h) ?_
              try simp only [Act.put, pu1, pu2, pu3, pu4, pu5, pu6]
              refine Ke.y 15 rfl (fun _ _ _ h => h) ?_
              try simp only [Act.put, pu1, pu2, pu3, pu4, pu5, pu6]
              refine Ke.y 16 rfl (fun _ _ _ h => h) ?_
              try simp only [Act.put, pu1, pu2, pu3, pu4, pu5, pu6]
              refine Ke.y 17 rfl (fun _ _ _ h => h) ?_
              try simp only [Act.put, pu1, pu2, pu3, pu4, pu5, pu6]
              refine Ke.y 18 rfl (fun _ _ _ h => h) ?_
              try simp only [Act.put, pu1, pu2, pu3, pu4, pu5, pu6]
              refine Ke.y 19 rfl (fun _ _ _ h => h) ?_
              try simp only [Act.put, pu1, pu2, pu3, pu4, pu5, pu6]
              refine Ke.y 20 rfl (fun _ _ _ h => h) ?_
              try simp only [Act.put, pu1, pu2, pu3, pu4, pu5, pu6]
              refine Ke.y 21 rfl (fun _ _ _ h => h) ?_
              try simp only [Act.put, pu1, pu2, pu3, pu4, pu5, pu6]
              refine Ke.y 22 rfl (fun _ _ _ h => h) ?_
              try simp only [Act.put, pu1, pu2, pu3, pu4, pu5, pu6]
              refine Ke.y 23 rfl (fun _ _ _ h => h) ?_
              try simp only [Act.put, pu1, pu2, pu3, pu4, pu5, pu6]
              refine Ke.z 24 rfl (fun K hK => ?_)
              go_simp
              refine (q1 W3).mono ?_
              rintro e W4 ⟨rfl, b4⟩
              refine hK.out _ _ ⟨(keepR (W := W3) hHeld.1 b4), (keepR (W := W3) hHeld.2.1 b4), (keepR (W := W3) hHeld.2.2.1 b4), (keepR (W := W3) hHeld.2.2.2.1 b4), (keepR (W := W3) hHeld.2.2.2.2.1 b4), (keepR (W := W3) hHeld.2.2.2.2.2.1 b4), (keepR (W := W3) hHeld.2.2.2.2.2.2.1 b4), (keepR (W := W3) hHeld.2.2.2.2.2.2.2.1 b4), (keepR (W := W3) hHeld.2.2.2.2.2.2.2.2.1 b4), (keepR (W := W3) hHeld.2.2.2.2.2.2.2.2.2 b4)⟩ (fun hHeld => ?_)
              clear hK K
              try simp only [Act.put, pu1, pu2, pu3, pu4, pu5, pu6]
              have z4 := b4.size
              have B4 := Ke.b B3 b4
              refine Ke.y 25 rfl (fun _ _ _ h => h) ?_
              try simp only [Act.put, pu1, pu2, pu3, pu4, pu5, pu6]
              refine Ke.y 26 rfl (fun _ _ _ h => h) ?_
              try simp only [Act.put, pu1, pu2, pu3, pu4, pu5, pu6]
              refine Ke.y 27 rfl (fun _ _ _ h => h) ?_
              try simp only [Act.put, pu1, pu2, pu3, pu4, pu5, pu6]
              refine Ke.y 28 rfl (fun _ _ _ h => h) ?_
              try simp only [Act.put, pu1, pu2, pu3, pu4, pu5, pu6]
              refine wpAnyH_done (by kernel_rfl) ?_ _
              clear hHeld
              cases V
              · go_wp2
                go_roundw
                case rel => exact ⟨k + 1, true, by omega, by go_num, rfl, (by show _ = _; rw [any_snoc16 _ HX.out, HV.out, HI.out]; first | rfl | simp), B4⟩
                case measure => simp [intOf]; omega
              · go_wp2
                go_roundw
                case rel => exact ⟨k + 1, false, by omega, by go_num, rfl, (by show _ = _; rw [any_snoc16 _ HX.out, HV.out, HI.out]; first | rfl | simp), B4⟩
                case measure => simp [intOf]; omega
          · go_wp2_with fail
            refine wp_region_held_drew (S := fun w' => w'.cell? ⟨b1, off1 + k * 5, none⟩ = some (.string x.path) ∧ w'.cell? ⟨b1, off1 + k * 5 + 1, none⟩ = some (.int .i64 x.a) ∧ w'.cell? ⟨b1, off1 + k * 5 + 2, none⟩ = some (.int .i64 x.b) ∧ w'.cell? ⟨b1, off1 + k * 5 + 3, none⟩ = some (.int .i64 x.c) ∧ w'.cell? ⟨b1, off1 + k * 5 + 4, none⟩ = some (.string x.pre) ∧ w'.cell? ⟨b2_, off2 + j * 5, none⟩ = some (.string q.path) ∧ w'.cell? ⟨b2_, off2 + j * 5 + 1, none⟩ = some (.int .i64 q.a) ∧ w'.cell? ⟨b2_, off2 + j * 5 + 2, none⟩ = some (.int .i64 q.b) ∧ w'.cell? ⟨b2_, off2 + j * 5 + 3, none⟩ = some (.int .i64 q.c) ∧ w'.cell? ⟨b2_, off2 + j * 5 + 4, none⟩ = some (.string q.pre)) (by kernel_rfl) ⟨m0, m1, m2, m3, m4, p0, p1, p2, p3, p4⟩ (fun hHeld => ?_)
            refine Ke.y 0 rfl (fun _ _ _ h => h) ?_
            try simp only [Act.put, pu1, pu2, pu3, pu4, pu5, pu6]
            refine Ke.y 1 rfl (fun _ _ _ h => h) ?_
            try simp only [Act.put, pu1, pu2, pu3, pu4, pu5, pu6]
            refine Ke.x 2 rfl (fun _ _ _ h => h) ?_
            try simp only [Act.put, pu1, pu2, pu3, pu4, pu5, pu6]
            refine Ke.x 3 rfl (fun _ _ _ h => h) ?_
            try simp only [Act.put, pu1, pu2, pu3, pu4, pu5, pu6]
            refine Ke.x 4 rfl (fun _ _ _ h => h) ?_
            try simp only [Act.put, pu1, pu2, pu3, pu4, pu5, pu6]
            refine Ke.x 5 rfl (fun _ _ _ h => h) ?_
            try simp only [Act.put, pu1, pu2, pu3, pu4, pu5, pu6]
            refine Ke.x 6 rfl (fun _ _ _ h => h) ?_
            try simp only [Act.put, pu1, pu2, pu3, pu4, pu5, pu6]
            refine Ke.x 7 rfl (fun _ _ _ h => h) ?_
            try simp only [Act.put, pu1, pu2, pu3, pu4, pu5, pu6]
            refine Ke.x 8 rfl (fun _ _ _ h => h) ?_
            try simp only [Act.put, pu1, pu2, pu3, pu4, pu5, pu6]
            refine Ke.x 9 rfl (fun _ _ _ h => h) ?_
            try simp only [Act.put, pu1, pu2, pu3, pu4, pu5, pu6]
            refine Ke.x 10 rfl (fun _ _ _ h => h) ?_
            try simp only [Act.put, pu1, pu2, pu3, pu4, pu5, pu6]
            refine Ke.x 11 rfl (fun _ _ _ h => h) ?_
            try simp only [Act.put, pu1, pu2, pu3, pu4, pu5, pu6]
            refine Ke.x 12 rfl (fun _ _ _ h => h) ?_
            try simp only [Act.put, pu1, pu2, pu3, pu4, pu5, pu6]
            refine Ke.x 13 rfl (fun _ _ _ h => h) ?_
            try simp only [Act.put, pu1, pu2, pu3, pu4, pu5, pu6]
            refine Ke.x 14 rfl (fun _ _ _ h => h) ?_
            try simp only [Act.put, pu1, pu2, pu3, pu4, pu5, pu6]
            refine Ke.x 15 rfl (fun _ _ _ h => h) ?_
            try simp only [Act.put, pu1, pu2, pu3, pu4, pu5, pu6]
            refine Ke.x 16 rfl (fun _ _ _ h => h) ?_
            try simp only [Act.put, pu1, pu2, pu3, pu4, pu5, pu6]
            refine Ke.x 17 rfl (fun _ _ _ h => h) ?_
            try simp only [Act.put, pu1, pu2, pu3, pu4, pu5, pu6]
            refine Ke.x 18 rfl (fun _ _ _ h => h) ?_
            try simp only [Act.put, pu1, pu2, pu3, pu4, pu5, pu6]
            refine Ke.x 19 rfl (fun _ _ _ h => h) ?_
            try simp only [Act.put, pu1, pu2, pu3, pu4, pu5, pu6]
            refine Ke.x 20 rfl (fun _ _ _ h => h) ?_
            try simp only [Act.put, pu1, pu2, pu3, pu4, pu5, pu6]
            refine Ke.x 21 rfl (fun _ _ _ h => h) ?_
            try simp only [Act.put, pu1, pu2, pu3, pu4, pu5, pu6]
            refine Ke.x 22 rfl (fun _ _ _ h => h) ?_
            try simp only [Act.put, pu1, pu2, pu3, pu4, pu5, pu6]
            refine Ke.x 23 rfl (fun _ _ _ h => h) ?_
            try simp only [Act.put, pu1, pu2, pu3, pu4, pu5, pu6]
            refine Ke.x 24 rfl (fun _ _ _ h => h) ?_
            try simp only [Act.put, pu1, pu2, pu3, pu4, pu5, pu6]
            refine Ke.x 25 rfl (fun _ _ _ h => h) ?_
            try simp only [Act.put, pu1, pu2, pu3, pu4, pu5, pu6]
            refine Ke.x 26 rfl (fun _ _ _ h => h) ?_
            try simp only [Act.put, pu1, pu2, pu3, pu4, pu5, pu6]
            refine Ke.y 27 rfl (fun _ _ _ h => h) ?_
            try simp only [Act.put, pu1, pu2, pu3, pu4, pu5, pu6]
            refine Ke.y 28 rfl (fun _ _ _ h => h) ?_
            try simp only [Act.put, pu1, pu2, pu3, pu4, pu5, pu6]
            refine wpAnyH_done (by kernel_rfl) ?_ _
            clear hHeld
            obtain ⟨W3, HW3, b3⟩ : ∃ X, Hid (W2.drew = X) ∧ Below W2.heap.size W2 X := ⟨_, rfl, Below.drew (Below.refl _ _)⟩
            rw [HW3.out]
            have z3 := b3.size
            have B3 := Ke.b B2 b3
            go_wp2
            go_roundw
            case rel => exact ⟨k + 1, true, by omega, by go_num, rfl, (by show _ = _; rw [any_snoc16 _ HX.out, HV.out, HI.out]; first | rfl | simp), B3⟩
            case measure => simp [intOf]; omega
        · have hlt2 : ¬ (k : Int) < (l.length : Int) := by omega
          have HE : Hid (k = l.length) := by show _ = _; omega
          have HA : Hid (l.any (cov1 q) = hv) := by have h9 := HV.out; rw [HE.out, List.take_length] at h9; exact h9
          cases hv
          · go_wp2
            go_ret
            exact ⟨by rw [covers16_no HQ.out HA.out]; rfl, B2.out⟩
          · go_wp2
            go_roundw
            case rel => exact ⟨j + 1, by omega, by go_num, fun y hy => by rw [take_snoc15 HQ.out] at hy; rcases List.mem_append.1 hy with h9 | h9; exact HN.out y h9; rw [List.mem_singleton.1 h9]; exact HA.out, B2⟩
            case measure => simp [intOf]; omega
    · have hjt2 : ¬ (j : Int) < (s.length : Int) := by omega
      have HE : Hid (j = s.length) := by show _ = _; omega
      go_wp2
      go_ret
      exact ⟨by rw [covers16_yes (fun y hy => HN.out y (by rw [HE.out, List.take_length]; exact hy))]; rfl, B1.out⟩

end Go.Proofs.Ytlhmemnaiobgkaa.Se

/- Chapter 16, the specification's side: is a list closed. -/
namespace Go.Proofs.Ytlhmemnaiobgkaa.Se
open Go.RowKit Go.Proofs.Ytlhmemnaiobgkaa.Mem Go.Proofs.Ytlhmemnaiobgkaa.Laws Go.Proofs.Ytlhmemnaiobgkaa.Ver Go.Proofs.Ytlhmemnaiobgkaa.Ent Go.Proofs.Ytlhmemnaiobgkaa.Fe
set_option linter.unusedVariables false
set_option linter.unusedSimpArgs false

def shut1 (l : List Ev) (list : List Nd) (q : Nd) : Bool := match find15 q l with | none => false | some e => covers16 list e.l
theorem closed16_no {l : List Ev} {s : List Nd} {q : Nd} {j : Nat} (h : s[j]? = some q) (hn : shut1 l s q = false) : closed16 l s = false := by
  unfold closed16
  rw [List.all_eq_false]
  exact ⟨q, List.mem_of_getElem? h, by show ¬ shut1 l s q = true; rw [hn]; decide⟩
theorem closed16_yes {l : List Ev} {s : List Nd} (h : ∀ q ∈ s, shut1 l s q = true) : closed16 l s = true := by
  unfold closed16
  rw [List.all_eq_true]
  exact h
theorem shut1_none {l : List Ev} {s : List Nd} {q : Nd} (h : find15 q l = none) : shut1 l s q = false := by unfold shut1; rw [h]
theorem shut1_some {l : List Ev} {s : List Nd} {q : Nd} {e : Ev} (h : find15 q l = some e) : shut1 l s q = covers16 s e.l := by unfold shut1; rw [h]

set_option maxRecDepth 1000000 in
set_option maxHeartbeats 4000000 in
theorem closed_spec (w : World) (v1 v2 : Value) (l : List Ev) (s : List Nd) (h1 : Se w v1 l) (h2 : Sd w v2 s) (hl : l.length ≤ 1000000000) (hs : s.length ≤ 1000000000000) (hz1 : ∀ e ∈ l, e.l.length ≤ 1000000000000 ∧ ∀ x ∈ e.l, x.pre.size ≤ 1000000000000) (hz2 : ∀ x ∈ s, x.pre.size ≤ 1000000000000) :
    Calls Try.prog 12 #[v1, v2] w fun e w' => e = .returned (.bool (closed16 l s)) ∧ Below w.heap.size w w' := by
  have HS1 : Hid (Se w v1 l) := h1
  have HS2 : Hid (Sd w v2 s) := h2
  obtain ⟨ao, cap, rfl, hcap⟩ := h1.form
  obtain ⟨_, ao2, cap2, rfl, hcap2, _, _⟩ := h2
  clear h1
  have B0 : Hid (Below w.heap.size w w) := Below.refl _ _
  go_enter Try.func12, Try.ntmps12
  go_wp2_with fail
  go_loopw [5] (fun i wr => ∃ k : Nat, k ≤ s.length ∧ i = .int .i64 (k : Int) ∧ Hid (∀ y ∈ s.take k, shut1 l s y = true) ∧ Hid (Below w.heap.size w wr)) (fun i _ => s.length - (intOf i).toNat)
  case atStart => exact ⟨0, Nat.zero_le _, rfl, (fun x hx => by simp at hx), B0⟩
  case round =>
    obtain ⟨k, hk, rfl, HN, B1⟩ := hrel
    obtain ⟨W1, hW1⟩ : ∃ X, X = wr := ⟨_, rfl⟩
    subst hW1
    by_cases hlt : k < s.length
    · have hlt2 : (k : Int) < (s.length : Int) := by omega
      obtain ⟨x, hx⟩ : ∃ x, s[k]? = some x := ⟨s[k], by simp [hlt]⟩
      obtain ⟨b, off, cap9, he, _, m0, m1, m2, m3, m4⟩ := Sd.at (HS2.out.later B1.out) hx
      simp only [Value.slice.injEq] at he
      obtain ⟨rfl, _, rfl⟩ := he
      have HX : Hid (s[k]? = some x) := hx
      clear hx
      have q1 : ∀ W, Below w.heap.size w W → _ := fun W hW => at15_spec W _ l x (HS1.out.later hW) (by omega)
      rcases at15_find x l 0 with ⟨f1, f2⟩ | ⟨m, y, f1, f2, f3⟩
      · simp only [f1] at q1
        have HF : Hid (shut1 l s x = false) := shut1_none f2
        clear f1 f2
        go_wp2_with fail
        refine wp_region_held_drew (S := fun w' => w'.cell? ⟨b, off + k * 5, none⟩ = some (.string x.path) ∧ w'.cell? ⟨b, off + k * 5 + 1, none⟩ = some (.int .i64 x.a) ∧ w'.cell? ⟨b, off + k * 5 + 2, none⟩ = some (.int .i64 x.b) ∧ w'.cell? ⟨b, off + k * 5 + 3, none⟩ = some (.int .i64 x.c) ∧ w'.cell? ⟨b, off + k * 5 + 4, none⟩ = some (.string x.pre)) (by kernel_rfl) ⟨m0, m1, m2, m3, m4⟩ (fun hHeld => ?_)
        obtain ⟨W2, HW2, b2⟩ : ∃ X, Hid (W1.drew = X) ∧ Below W1.heap.size W1 X := ⟨_, rfl, Below.drew (Below.refl _ _)⟩
        have HHW2 := HW2.out
        rw [HHW2] at hHeld ⊢
        clear HHW2
        have z2 := b2.size
        have B2 := Ke.b B1 b2
        refine Ke.y 0 rfl (fun _ _ _ h => h) ?_
        try simp only [Act.put, pu1, pu2, pu3, pu4, pu5, pu6]
        refine Ke.y 1 rfl (fun _ _ _ h => h) ?_
        try simp only [Act.put, pu1, pu2, pu3, pu4, pu5, pu6]
        refine Ke.y 2 rfl (fun _ _ _ h => h) ?_
        try simp only [Act.put, pu1, pu2, pu3, pu4, pu5, pu6]
        refine Ke.y 3 rfl (fun _ _ _ h => h) ?_
        try simp only [Act.put, pu1, pu2, pu3, pu4, pu5, pu6]
        refine Ke.y 4 rfl (fun _ _ _ h => h) ?_
        try simp only [Act.put, pu1, pu2, pu3, pu4, pu5, pu6]
        refine Ke.y 5 rfl (fun _ _ _ h => h) ?_
        try simp only [Act.put, pu1, pu2, pu3, pu4, pu5, pu6]
        refine Ke.y 6 rfl (fun _ _ _ h => h) ?_
        try simp only [Act.put, pu1, pu2, pu3, pu4, pu5, pu6]
        refine Ke.y 7 rfl (fun _ _ _ h => h) ?_
        try simp only [Act.put, pu1, pu2, pu3, pu4, pu5, pu6]
        refine Ke.y 8 rfl (fun _ _ _ h => h) ?_
        try simp only [Act.put, pu1, pu2, pu3, pu4, pu5, pu6]
        refine Ke.y 9 rfl (fun _ _ _ h => h) ?_
        try simp only [Act.put, pu1, pu2, pu3, pu4, pu5, pu6]
        refine Ke.y 10 rfl (fun _ _ _ h => h) ?_
        try simp only [Act.put, pu1, pu2, pu3, pu4, pu5, pu6]
        refine Ke.z 11 rfl (fun K hK => ?_)
        go_simp
        refine (q1 W2 B2.out).mono ?_
        rintro e W3 ⟨rfl, b3⟩
        refine hK.out _ _ ⟨(keepR (W := W2) hHeld.1 b3), (keepR (W := W2) hHeld.2.1 b3), (keepR (W := W2) hHeld.2.2.1 b3), (keepR (W := W2) hHeld.2.2.2.1 b3), (keepR (W := W2) hHeld.2.2.2.2 b3)⟩ (fun hHeld => ?_)
        clear hK K
        try simp only [Act.put, pu1, pu2, pu3, pu4, pu5, pu6]
        have z3 := b3.size
        have B3 := Ke.b B2 b3
        refine Ke.y 12 rfl (fun _ _ _ h => h) ?_
        try simp only [Act.put, pu1, pu2, pu3, pu4, pu5, pu6]
        refine wpAnyH_done (by kernel_rfl) ?_ _
        clear hHeld
        go_wp2
        go_ret
        exact ⟨by rw [closed16_no HX.out HF.out]; rfl, B3.out⟩
      · simp only [f1, Nat.zero_add] at q1
        have HF : Hid (shut1 l s x = covers16 s y.l) := shut1_some f3
        have hm : m < l.length := (List.getElem?_eq_some_iff.1 f2).1
        have hm2 : (m : Int) < (l.length : Int) := by omega
        have hm3 : ¬ (m : Int) < 0 := by omega
        have HY : Hid (l[m]? = some y) := f2
        obtain ⟨hy1, hy2⟩ := hz1 y (List.mem_of_getElem? f2)
        clear f1 f2 f3
        go_wp2_with fail
        refine wp_region_held_drew (S := fun w' => w'.cell? ⟨b, off + k * 5, none⟩ = some (.string x.path) ∧ w'.cell? ⟨b, off + k * 5 + 1, none⟩ = some (.int .i64 x.a) ∧ w'.cell? ⟨b, off + k * 5 + 2, none⟩ = some (.int .i64 x.b) ∧ w'.cell? ⟨b, off + k * 5 + 3, none⟩ = some (.int .i64 x.c) ∧ w'.cell? ⟨b, off + k * 5 + 4, none⟩ = some (.string x.pre)) (by kernel_rfl) ⟨m0, m1, m2, m3, m4⟩ (fun hHeld => ?_)
        obtain ⟨W2, HW2, b2⟩ : ∃ X, Hid (W1.drew = X) ∧ Below W1.heap.size W1 X := ⟨_, rfl, Below.drew (Below.refl _ _)⟩
        have HHW2 := HW2.out
        rw [HHW2] at hHeld ⊢
        clear HHW2
        have z2 := b2.size
        have B2 := Ke.b B1 b2
        refine Ke.y 0 rfl (fun _ _ _ h => h) ?_
        try simp only [Act.put, pu1, pu2, pu3, pu4, pu5, pu6]
        refine Ke.y 1 rfl (fun _ _ _ h => h) ?_
        try simp only [Act.put, pu1, pu2, pu3, pu4, pu5, pu6]
        refine Ke.y 2 rfl (fun _ _ _ h => h) ?_
        try simp only [Act.put, pu1, pu2, pu3, pu4, pu5, pu6]
        refine Ke.y 3 rfl (fun _ _ _ h => h) ?_
        try simp only [Act.put, pu1, pu2, pu3, pu4, pu5, pu6]
        refine Ke.y 4 rfl (fun _ _ _ h => h) ?_
        try simp only [Act.put, pu1, pu2, pu3, pu4, pu5, pu6]
        refine Ke.y 5 rfl (fun _ _ _ h => h) ?_
        try simp only [Act.put, pu1, pu2, pu3, pu4, pu5, pu6]
        refine Ke.y 6 rfl (fun _ _ _ h => h) ?_
        try simp only [Act.put, pu1, pu2, pu3, pu4, pu5, pu6]
        refine Ke.y 7 rfl (fun _ _ _ h => h) ?_
        try simp only [Act.put, pu1, pu2, pu3, pu4, pu5, pu6]
        refine Ke.y 8 rfl (fun _ _ _ h => h) ?_
        try simp only [Act.put, pu1, pu2, pu3, pu4, pu5, pu6]
        refine Ke.y 9 rfl (fun _ _ _ h => h) ?_
        try simp only [Act.put, pu1, pu2, pu3, pu4, pu5, pu6]
        refine Ke.y 10 rfl (fun _ _ _ h => h) ?_
        try simp only [Act.put, pu1, pu2, pu3, pu4, pu5, pu6]
        refine Ke.z 11 rfl (fun K hK => ?_)
        go_simp
        refine (q1 W2 B2.out).mono ?_
        rintro e W3 ⟨rfl, b3⟩
        refine hK.out _ _ ⟨(keepR (W := W2) hHeld.1 b3), (keepR (W := W2) hHeld.2.1 b3), (keepR (W := W2) hHeld.2.2.1 b3), (keepR (W := W2) hHeld.2.2.2.1 b3), (keepR (W := W2) hHeld.2.2.2.2 b3)⟩ (fun hHeld => ?_)
        clear hK K
        try simp only [Act.put, pu1, pu2, pu3, pu4, pu5, pu6]
        have z3 := b3.size
        have B3 := Ke.b B2 b3
        refine Ke.y 12 rfl (fun _ _ _ h => h) ?_
        try simp only [Act.put, pu1, pu2, pu3, pu4, pu5, pu6]
        refine wpAnyH_done (by kernel_rfl) ?_ _
        clear hHeld
        clear m0 m1 m2 m3 m4
        obtain ⟨b_, off_, cap8, he, _, p0, p1, p2, p3, p4, p5, hsd⟩ := Se.at (HS1.out.later B3.out) HY.out
        simp only [Value.slice.injEq] at he
        obtain ⟨rfl, _, rfl⟩ := he
        clear p0 p1 p2 p3 p4
        obtain ⟨C, hC⟩ : ∃ C, covers16 s y.l = C := ⟨_, rfl⟩
        have q2 := covers_spec W3 _ y.u s y.l (HS2.out.later B3.out) hsd hs hy1 hz2 hy2
        rw [hC] at q2
        have HC : Hid (shut1 l s x = C) := HF.out.trans hC
        clear hC HF hsd q1
        go_wp2_with fail
        refine q2.mono ?_
        rintro e W9 ⟨rfl, b9⟩
        have B9 := Ke.b B3 b9
        cases C
        · go_wp2
          go_ret
          exact ⟨by rw [closed16_no HX.out HC.out]; rfl, B9.out⟩
        · go_wp2
          go_roundw
          case rel => exact ⟨k + 1, by omega, by go_num, fun y hy => by rw [take_snoc15 HX.out] at hy; rcases List.mem_append.1 hy with h9 | h9; exact HN.out y h9; rw [List.mem_singleton.1 h9]; exact HC.out, B9⟩
          case measure => simp [intOf]; omega
    · have hlt2 : ¬ (k : Int) < (s.length : Int) := by omega
      have HE : Hid (k = s.length) := by show _ = _; omega
      go_wp2
      go_ret
      exact ⟨by rw [closed16_yes (fun y hy => HN.out y (by rw [HE.out, List.take_length]; exact hy))]; rfl, B1.out⟩

end Go.Proofs.Ytlhmemnaiobgkaa.Se

/- Chapter 15, draws: entries, and a name that is sought. -/
namespace Go.Proofs.Ytlhmemnaiobgkaa.Fe
open Go.RowKit Go.Proofs.Ytlhmemnaiobgkaa.Mem Go.Proofs.Ytlhmemnaiobgkaa.Laws Go.Proofs.Ytlhmemnaiobgkaa.Bytes Go.Proofs.Ytlhmemnaiobgkaa.Ver Go.Proofs.Ytlhmemnaiobgkaa.Ent Go.Proofs.Ytlhmemnaiobgkaa.Draw
set_option linter.unusedVariables false
set_option linter.unusedSimpArgs false

theorem res_ttc {P : Program} {fn : Func} {p q u : Tmp} {ty : TypeId} (h : fn.results = #[.tmp p, .tmp q, .cell u ty]) (tmps : Array Value) (w : World) (g1 : Nat) (t : TypeId) (c1 : Array Value) (fr : Nat × Nat) (d : TypeDesc)
    (hp : tmps.getD u undef = .pointer (some ⟨g1, 0, none⟩)) (hg1 : w.heap[g1]? = some (.cells c1 t fr))
    (hu : P.underlying ty = some d) (hd : (match d with | .struct _ | .array _ _ => true | _ => false) = true) (hi1 : (P.info? ty).map (·.size) = some c1.size) :
    (results fn tmps).run P w = .ok (.tuple #[tmps.getD p undef, tmps.getD q undef, .agg c1]) w := by
  have hp' : tmps[u]?.getD undef = .pointer (some ⟨g1, 0, none⟩) := by simpa using hp
  simp [results, h, hp', asAddr, run_loadVar_row w g1 t ty c1 fr d hg1 hu hd hi1]
theorem sizeV9 (n : Nd) : (Try.prog.info? 29).map (·.size) = some (vc n).size := by
  show _ = some 4
  kernel_rfl
theorem oneV9 (n : Nd) : (vc n).all (·.oneCell') = true := by simp [vc, Value.oneCell']

end Go.Proofs.Ytlhmemnaiobgkaa.Fe

/- Chapter 5, the laws' helpers: marks laid into a list of needs, and found there. -/
namespace Go.Proofs.Ytlhmemnaiobgkaa.Ent
open Go.RowKit Go.Proofs.Ytlhmemnaiobgkaa.Mem Go.Proofs.Ytlhmemnaiobgkaa.Laws Go.Proofs.Ytlhmemnaiobgkaa.Bytes Go.Proofs.Ytlhmemnaiobgkaa.Sha Go.Proofs.Ytlhmemnaiobgkaa.Ver Go.Proofs.Ytlhmemnaiobgkaa.Mod Go.Proofs.Ytlhmemnaiobgkaa.Strs
set_option linter.unusedVariables false
set_option linter.unusedSimpArgs false

/-- marks from k on, as needs -/
def md (k : Nat) : Nd := ⟨mt k, ((k + 1 : Nat) : Int), ((k + 2 : Nat) : Int), ((k + 3 : Nat) : Int), mt (k + 4)⟩
def mds (k n : Nat) : List Nd := (List.range n).map fun i => md (k + 5 * i)
theorem mds_len (k n : Nat) : (mds k n).length = n := by simp [mds]
theorem mds_get (k n j : Nat) (h : j < n) : (mds k n)[j]? = some (md (k + 5 * j)) := by simp [mds, h]
theorem own_keep5 {n m cap lo g : Nat} {e : TypeId} {w w' : World} {cs : List Value} (h : w.ownsRow lo e n (.slice (some ⟨g, 0, none⟩) m cap) m cs) (hk : w'.heap[g]? = w.heap[g]?) : w'.ownsRow lo e n (.slice (some ⟨g, 0, none⟩) m cap) m cs := by
  refine ⟨h.1, ?_⟩
  rcases h.2 with ⟨h', _⟩ | ⟨g', cap', cur, h', hq, hh, r⟩
  · simp at h'
  · simp only [Value.slice.injEq, Option.some.injEq, Addr.mk.injEq, and_true, true_and] at h'
    obtain ⟨rfl, rfl⟩ := h'
    exact .inr ⟨g, cap, cur, rfl, hq, by rw [hk]; exact hh, r⟩

end Go.Proofs.Ytlhmemnaiobgkaa.Ent

/- Chapter 15, the laws' helpers: lists of versions: whether two are the same, marks. -/
namespace Go.Proofs.Ytlhmemnaiobgkaa.Fe
open Go.RowKit Go.Proofs.Ytlhmemnaiobgkaa.Mem Go.Proofs.Ytlhmemnaiobgkaa.Laws Go.Proofs.Ytlhmemnaiobgkaa.Ver Go.Proofs.Ytlhmemnaiobgkaa.Ent Go.Proofs.Ytlhmemnaiobgkaa.Strs
set_option linter.unusedVariables false
set_option linter.unusedSimpArgs false

theorem vcs_get : ∀ (l : List Nd) (k : Nat) (q : Nd), l[k]? = some q →
    (vcs l)[k * 4]? = some (.int .i64 q.a) ∧ (vcs l)[k * 4 + 1]? = some (.int .i64 q.b) ∧ (vcs l)[k * 4 + 2]? = some (.int .i64 q.c) ∧ (vcs l)[k * 4 + 3]? = some (.string q.pre) := by
  intro l
  induction l with
  | nil => intro k q h; simp at h
  | cons x r ih =>
    intro k q h
    cases k with
    | zero => simp at h; subst h; exact ⟨rfl, rfl, rfl, rfl⟩
    | succ k =>
      have := ih k q (by simpa using h)
      have e : (k + 1) * 4 = k * 4 + 4 := by omega
      rw [e]
      exact this
/-- v is a slice of the versions of these -/
def Sw (w : World) (v : Value) (l : List Nd) : Prop := Sn 4 w v l.length (vcs l)
theorem Ow.sw {w : World} {lo hi : Nat} {v : Value} {l : List Nd} (h : Ow w lo hi v l) : Sw w v l := On.sn h
theorem Ow.slice {w : World} {lo hi : Nat} {v : Value} {l : List Nd} (h : Ow w lo hi v l) : ∃ ao cap, v = .slice ao l.length cap := On.slice h
theorem Sw.later {w w' : World} {v : Value} {l : List Nd} (h : Sw w v l) (hb : Below w.heap.size w w') : Sw w' v l := Sn.later h hb
theorem Sw.at {w : World} {v : Value} {l : List Nd} (h : Sw w v l) {k : Nat} {q : Nd} (hq : l[k]? = some q) : ∃ b off cap, v = .slice (some ⟨b, off, none⟩) l.length cap ∧ l.length ≤ cap ∧
    w.cell? ⟨b, off + k * 4, none⟩ = some (.int .i64 q.a) ∧ w.cell? ⟨b, off + k * 4 + 1, none⟩ = some (.int .i64 q.b) ∧ w.cell? ⟨b, off + k * 4 + 2, none⟩ = some (.int .i64 q.c) ∧ w.cell? ⟨b, off + k * 4 + 3, none⟩ = some (.string q.pre) := by
  have hk : k < l.length := (List.getElem?_eq_some_iff.1 hq).1
  obtain ⟨b, off, cap, rfl, hc, hr⟩ := Sn.at h hk
  obtain ⟨h0, h1, h2, h3⟩ := vcs_get l k q hq
  refine ⟨b, off, cap, rfl, hc, ?_, ?_, ?_, ?_⟩
  · have := hr 0 (by omega); rw [Nat.add_zero, h0] at this; exact this
  · have := hr 1 (by omega); rw [h1, ← Nat.add_assoc] at this; exact this
  · have := hr 2 (by omega); rw [h2, ← Nat.add_assoc] at this; exact this
  · have := hr 3 (by omega); rw [h3, ← Nat.add_assoc] at this; exact this
/-- marks from k on, as versions -/
def mv (k : Nat) : Nd := ⟨⟨#[]⟩, (k : Int), ((k + 1 : Nat) : Int), ((k + 2 : Nat) : Int), mt (k + 3)⟩
def mvs (k n : Nat) : List Nd := (List.range n).map fun i => mv (k + 4 * i)
theorem mvs_len (k n : Nat) : (mvs k n).length = n := by simp [mvs]
theorem mvs_get (k n j : Nat) (h : j < n) : (mvs k n)[j]? = some (mv (k + 4 * j)) := by simp [mvs, h]

end Go.Proofs.Ytlhmemnaiobgkaa.Fe

/- Chapter 15: FnFound, over contracts of the landed functions. -/
namespace Go.Proofs.Ytlhmemnaiobgkaa.Fe
open Go.RowKit Go.Proofs.Ytlhmemnaiobgkaa.Mem Go.Proofs.Ytlhmemnaiobgkaa.Laws Go.Proofs.Ytlhmemnaiobgkaa.Bytes Go.Proofs.Ytlhmemnaiobgkaa.Ver Go.Proofs.Ytlhmemnaiobgkaa.Ent Go.Proofs.Ytlhmemnaiobgkaa.Draw
set_option linter.unusedVariables false
set_option linter.unusedSimpArgs false

theorem Oet.ofBelow {w w' : World} {lo hi : Nat} {v : Value} {T : List Ev} (h : Oet w lo hi v T) (b : Below w.heap.size w w') : Oet w' lo hi v T := h.later b
theorem Owt9.later {w w' : World} {lo hi : Nat} {v : Value} {l : List Nd} (h : Ow w lo hi v l ∧ hi ≤ w.heap.size) (b : Below w.heap.size w w') : Ow w' lo hi v l ∧ hi ≤ w'.heap.size := ⟨On.later h.1 b h.2, Nat.le_trans h.2 b.size⟩
theorem any_snoc {α : Type} {l : List α} {k : Nat} {x : α} (f : α → Bool) (h : l[k]? = some x) : (l.take (k + 1)).any f = ((l.take k).any f || f x) := by
  rw [take_snoc15 h, List.any_append]
  simp
theorem res_any (q : Nd) (T : List Ev) : (res15 q T).2.2 = T.any fun x => isN q x.n := by
  unfold res15
  cases hf : T.find? (fun x => isN q x.n) with
  | none =>
    have : T.any (fun x => isN q x.n) = false := by
      rw [List.any_eq_false]
      exact List.find?_eq_none.1 hf
    rw [this]
  | some x => exact (List.any_eq_true.2 ⟨x, List.mem_of_find?_eq_some hf, by simpa using List.find?_some hf⟩).symm
theorem res_is (q : Nd) (T : List Ev) (h : (res15 q T).2.2 = true) : isN q (res15 q T).1 = true := by
  unfold res15 at h ⊢
  cases hf : T.find? (fun x => isN q x.n) with
  | none => rw [hf] at h; cases h
  | some x => simpa using List.find?_some hf
theorem lack_one (q : Nd) (T : List Ev) : (lack15 (T.map Ev.n) [q]).length = if (res15 q T).2.2 = true then 0 else 1 := by
  unfold res15 lack15
  rcases at15_find q T 0 with ⟨h1, h2⟩ | ⟨k, x, h1, _, h2⟩
  · rw [h2]
    simp [List.filter, h1]
  · rw [h2]
    have h9 : ¬ (((0 + k : Nat) : Int) < 0) := by omega
    simp only [List.filter, h1, h9, decide_false]
    rfl
theorem isN_parts {q n : Nd} (h : isN q n = true) : (n.path.toList == q.path.toList) = true ∧ sameV n.a n.b n.c n.pre q.a q.b q.c q.pre = true := by
  unfold isN at h
  rw [Bool.and_eq_true] at h
  exact h
theorem lit_need (w : World) (n : Nd) : Od (w.alloc (.cells (nc n) 32)) w.heap.size (w.alloc (.cells (nc n) 32)).heap.size (.slice (some ⟨w.heap.size, 0, none⟩) 1 1) [n] :=
  On.of ⟨by simp [nds], .inr ⟨w.heap.size, 1, nc n, rfl, Nat.le_refl _, heap_alloc_new w _, Nat.le_refl _, by unfold maxLen; omega, by simp [nc], by simp [nc, nds]⟩⟩

end Go.Proofs.Ytlhmemnaiobgkaa.Fe

/- Chapter 15, the laws' helpers: the sizes of a list of entries; whether two are the same. -/
namespace Go.Proofs.Ytlhmemnaiobgkaa.Fe
open Go.RowKit Go.Proofs.Ytlhmemnaiobgkaa.Mem Go.Proofs.Ytlhmemnaiobgkaa.Laws Go.Proofs.Ytlhmemnaiobgkaa.Ver Go.Proofs.Ytlhmemnaiobgkaa.Ent
set_option linter.unusedVariables false
set_option linter.unusedSimpArgs false

/-- entries and needs, how many there are -/
def tot15 : List Ev → Nat
  | [] => 0
  | x :: r => 1 + x.l.length + tot15 r
theorem tot15_app (l m : List Ev) : tot15 (l ++ m) = tot15 l + tot15 m := by
  induction l with
  | nil => simp [tot15]
  | cons x r ih => simp only [List.cons_append, tot15, ih]; omega
theorem tot15_len (l : List Ev) : l.length ≤ tot15 l := by
  induction l with
  | nil => exact Nat.zero_le _
  | cons x r ih => simp only [List.length_cons, tot15]; omega
theorem tot15_mem {l : List Ev} {x : Ev} (h : x ∈ l) : x.l.length ≤ tot15 l := by
  induction l with
  | nil => cases h
  | cons y r ih =>
    simp only [tot15]
    rcases List.mem_cons.1 h with rfl | h
    · omega
    · have := ih h; omega
theorem tot15_alk {l T : List Ev} (h : Alk l T) : tot15 T = tot15 l := by
  have e : ∀ s : List Ev, tot15 s = ((s.map key15).map fun p => 1 + p.2.length).sum := by
    intro s
    induction s with
    | nil => rfl
    | cons x r ih => rw [tot15, ih]; rfl
  rw [e, e, show T.map key15 = l.map key15 from h]
/-- an entry's texts and needs fit -/
def Fit (left : Nat) (x : Ev) : Prop := x.n.path.size ≤ left ∧ x.n.pre.size ≤ left ∧ ∀ n ∈ x.l, n.path.size ≤ left ∧ n.pre.size ≤ left
def Big (x : Ev) : Prop := x.n.path.size ≤ 9223372036854775807 ∧ x.n.pre.size ≤ 9223372036854775807 ∧ (∀ n ∈ x.l, n.path.size ≤ 9223372036854775807 ∧ n.pre.size ≤ 9223372036854775807) ∧ x.l.length ≤ 9223372036854775807

end Go.Proofs.Ytlhmemnaiobgkaa.Fe

/- Chapter 15, the laws' helpers: marks laid into a list of entries. -/
namespace Go.Proofs.Ytlhmemnaiobgkaa.Fe
open Go.RowKit Go.Proofs.Ytlhmemnaiobgkaa.Mem Go.Proofs.Ytlhmemnaiobgkaa.Laws Go.Proofs.Ytlhmemnaiobgkaa.Ver Go.Proofs.Ytlhmemnaiobgkaa.Ent Go.Proofs.Ytlhmemnaiobgkaa.Strs
set_option linter.unusedVariables false
set_option linter.unusedSimpArgs false

theorem Od.tight {w : World} {lo hi : Nat} {v : Value} {l : List Nd} (h : Od w lo hi v l) : ∃ a b, Od w a b v l ∧ b ≤ w.heap.size ∧ ∀ k, a ≤ k → k < b → v.ownBlock = some k ∧ lo ≤ k ∧ k < hi := by
  cases hv : v.ownBlock with
  | none => exact ⟨lo, 0, ⟨h.1, fun g hg => by rw [hv] at hg; cases hg⟩, Nat.zero_le _, fun k h1 h2 => by omega⟩
  | some g =>
    obtain ⟨h1, h2, h3⟩ := On.lt h hv
    exact ⟨g, g + 1, On.narrow h hv, by omega, fun k h4 h5 => ⟨by rw [show g = k by omega], by omega, by omega⟩⟩
theorem Apart.wide {lo hi a b : Nat} {w w' : World} (h : Apart a b w w') (hk : ∀ k, a ≤ k → k < b → lo ≤ k ∧ k < hi) : Apart lo hi w w' :=
  ⟨h.os, h.tape, h.output, h.size, fun k h1 h2 => h.block k h1 (fun h3 => h2 (hk k h3.1 h3.2))⟩
theorem drop_at {α : Type} {T : List α} {k : Nat} {x : α} (h : T[k]? = some x) : T.drop k = x :: T.drop (k + 1) := by
  obtain ⟨h1, h2⟩ := List.getElem?_eq_some_iff.1 h
  rw [List.drop_eq_getElem_cons h1, h2]

end Go.Proofs.Ytlhmemnaiobgkaa.Fe

/- Chapter 5, the laws' helpers: marks found in a list of needs; an entry's marks. -/
namespace Go.Proofs.Ytlhmemnaiobgkaa.Ent
open Go.RowKit Go.Proofs.Ytlhmemnaiobgkaa.Mem Go.Proofs.Ytlhmemnaiobgkaa.Laws Go.Proofs.Ytlhmemnaiobgkaa.Bytes Go.Proofs.Ytlhmemnaiobgkaa.Sha Go.Proofs.Ytlhmemnaiobgkaa.Ver Go.Proofs.Ytlhmemnaiobgkaa.Mod Go.Proofs.Ytlhmemnaiobgkaa.Strs
set_option linter.unusedVariables false
set_option linter.unusedSimpArgs false

end Go.Proofs.Ytlhmemnaiobgkaa.Ent
