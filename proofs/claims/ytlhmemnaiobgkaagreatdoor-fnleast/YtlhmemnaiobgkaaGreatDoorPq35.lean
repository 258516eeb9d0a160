/- Texts in one: Si1, Se6, Se8, SeF, Re0. -/
import Derived.Test.YtlhmemnaiobgkaaGreatDoorPq8
import Derived.Test.YtlhmemnaiobgkaaGreatDoorPq32
import Derived.Test.YtlhmemnaiobgkaaGreatDoorPq33
import Derived.Test.YtlhmemnaiobgkaaGreatDoorPq5
import Derived.Test.YtlhmemnaiobgkaaGreatDoorPq18
import Derived.Test.YtlhmemnaiobgkaaGreatDoorPq19
import Derived.Deep.DeepCutAuto
import Derived.Deep.LoopGhost
/- Chapter 16, the landed code: does a list cover needs. -/
namespace Go.Proofs.YtlhmemnaiobgkaaGreatDoor.Se
open Go.RowKit Go.Proofs.YtlhmemnaiobgkaaGreatDoor.Mem Go.Proofs.YtlhmemnaiobgkaaGreatDoor.Laws Go.Proofs.YtlhmemnaiobgkaaGreatDoor.Ver Go.Proofs.YtlhmemnaiobgkaaGreatDoor.Ent Go.Proofs.YtlhmemnaiobgkaaGreatDoor.Fe
set_option linter.unusedVariables false
set_option linter.unusedSimpArgs false

/-- x is of q's path, and no less, as the landed code tells it -/
def covI (q x : Nd) : Bool := eqT x.path q.path && !lessQ (ver4 x) (ver4 q)
def coversI (list needs : List Nd) : Bool := needs.all fun n => list.any (covI n)
theorem coversI_no {list needs : List Nd} {q : Nd} {j : Nat} (h : needs[j]? = some q) (hn : list.any (covI q) = false) : coversI list needs = false := by
  unfold coversI
  rw [List.all_eq_false]
  exact ⟨q, List.mem_of_getElem? h, by rw [hn]; decide⟩
theorem coversI_yes {list needs : List Nd} (h : ∀ q ∈ needs, list.any (covI q) = true) : coversI list needs = true := by
  unfold coversI
  rw [List.all_eq_true]
  exact h
theorem any_snocI {l : List Nd} {k : Nat} {x : Nd} (f : Nd → Bool) (h : l[k]? = some x) : (l.take (k + 1)).any f = ((l.take k).any f || f x) := by
  rw [take_snoc15 h, List.any_append]
  simp
theorem any_hitI {l : List Nd} {k : Nat} {x : Nd} (f : Nd → Bool) (h : l[k]? = some x) (hf : f x = true) : l.any f = true := List.any_eq_true.2 ⟨x, List.mem_of_getElem? h, hf⟩
/-- of versions that are right: as the specification tells it -/
theorem coversI_eq {list needs : List Nd} (h1 : ∀ x ∈ list, okN x) (h2 : ∀ x ∈ needs, okN x) : coversI list needs = covers16 list needs := by
  have hc : ∀ q ∈ needs, list.any (covI q) = list.any (cov1 q) := by
    intro q hq
    rw [Bool.eq_iff_iff, List.any_eq_true, List.any_eq_true]
    have he : ∀ x ∈ list, covI q x = cov1 q x := fun x hx => by unfold covI cov1; rw [less_lv (h1 x hx) (h2 q hq)]
    constructor
    · rintro ⟨x, hx, h⟩; exact ⟨x, hx, by rw [← he x hx]; exact h⟩
    · rintro ⟨x, hx, h⟩; exact ⟨x, hx, by rw [he x hx]; exact h⟩
  unfold coversI covers16
  rw [Bool.eq_iff_iff, List.all_eq_true, List.all_eq_true]
  constructor
  · intro h q hq; rw [← hc q hq]; exact h q hq
  · intro h q hq; rw [hc q hq]; exact h q hq

set_option maxRecDepth 1000000 in
set_option maxHeartbeats 4000000 in
theorem covers_impl (w : World) (v1 v2 : Value) (l s : List Nd) (h1 : Sd w v1 l) (h2 : Sd w v2 s) (hl : l.length ≤ 1000000000000) (hs : s.length ≤ 1000000000000) (hz1 : ∀ x ∈ l, x.pre.size ≤ 1000000000000) (hz2 : ∀ x ∈ s, x.pre.size ≤ 1000000000000) :
    Calls Tryz.prog 17 #[v1, v2] w fun e w' => e = .returned (.bool (coversI l s)) ∧ Below w.heap.size w w' := by
  have HS1 : Hid (Sd w v1 l) := h1
  have HS2 : Hid (Sd w v2 s) := h2
  obtain ⟨_, ao, cap, rfl, hcap, _, _⟩ := h1
  obtain ⟨_, ao2, cap2, rfl, hcap2, _, _⟩ := h2
  have B0 : Hid (Below w.heap.size w w) := Below.refl _ _
  go_enter Tryz.func17, Tryz.ntmps17
  go_wp2
  go_step3
  go_wp2
  go_step3
  go_wp2_with fail
  go_loopg [11] s.length (fun g i wr => ∃ j : Nat, j + g = s.length ∧ i = .int .i64 (j : Int) ∧ Hid (∀ y ∈ s.take j, l.any (covI y) = true) ∧ Hid (Below w.heap.size w wr))
  case atStart => exact ⟨0, Nat.zero_add _, rfl, (fun x hx => by simp at hx), B0⟩
  case round =>
    obtain ⟨j, hj, rfl, HN, B1⟩ := hrel
    obtain ⟨W1, hW1⟩ : ∃ X, X = wr := ⟨_, rfl⟩
    subst hW1
    obtain ⟨G, hG⟩ : ∃ X, X = gk := ⟨_, rfl⟩
    subst hG
    by_cases hjt : j < s.length
    · have hjt2 : (j : Int) < (s.length : Int) := by omega
      obtain ⟨q, hq⟩ : ∃ q, s[j]? = some q := ⟨s[j], by simp [hjt]⟩
      have HQ : Hid (s[j]? = some q) := hq
      have hqp := hz2 q (List.mem_of_getElem? hq)
      obtain ⟨b2_, off2, cap9, he, _, p0, p1, p2, p3, p4⟩ := Sd.at (HS2.out.later B1.out) hq
      simp only [Value.slice.injEq] at he
      obtain ⟨rfl, _, rfl⟩ := he
      clear hq
      obtain ⟨W2, HW2, b2, y2, hS2, r2⟩ := Ke.l1 W1 #[.string q.path, .int .i64 q.a, .int .i64 q.b, .int .i64 q.c, .string q.pre] 38
      have B2 := Ke.b B1 b2
      go_wp2_with fail
      rw [HW2.out]
      clear p0 p1 p2 p3 p4
      go_loopg [17] l.length (fun g i wr => ∃ k : Nat, k + g = l.length ∧ i = .int .i64 (k : Int) ∧ Hid ((l.take k).any (covI q) = false) ∧ Hid (Below w.heap.size w wr) ∧ Hid (Below W2.heap.size W2 wr))
      case atStart => exact ⟨0, Nat.zero_add _, rfl, (by show _ = _; simp), B2, Below.refl _ _⟩
      case round =>
        obtain ⟨k, hk, rfl, HV, B3, D3⟩ := hrel
        obtain ⟨W3, hW3⟩ : ∃ X, X = wr := ⟨_, rfl⟩
        subst hW3
        have r3 := Ke.r r2 D3.out
        by_cases hlt : k < l.length
        · have hlt2 : (k : Int) < (l.length : Int) := by omega
          obtain ⟨x, hx⟩ : ∃ x, l[k]? = some x := ⟨l[k], by simp [hlt]⟩
          obtain ⟨b1, off1, cap8, he, _, m0, m1, m2, m3, m4⟩ := Sd.at (HS1.out.later B3.out) hx
          simp only [Value.slice.injEq] at he
          obtain ⟨rfl, _, rfl⟩ := he
          have HX : Hid (l[k]? = some x) := hx
          have hxp := hz1 x (List.mem_of_getElem? hx)
          clear hx
          obtain ⟨W4, HW4, b4, y4, hS4, r4⟩ := Ke.l1 W3 #[.string x.path, .int .i64 x.a, .int .i64 x.b, .int .i64 x.c, .string x.pre] 38
          have B4 := Ke.b B3 b4
          have D4 := Ke.b D3 b4
          have r5 := Ke.r r3 b4
          have z4 := b4.size
          obtain ⟨P, hP⟩ : ∃ P, (x.path.toList == q.path.toList) = P := ⟨_, rfl⟩
          obtain ⟨V, hV⟩ : ∃ V, decide (cmpV x.a x.b x.c x.pre q.a q.b q.c q.pre < 0) = V := ⟨_, rfl⟩
          have HI : Hid (covI q x = (P && !V)) := by show covI _ _ = _; unfold covI eqT lessQ ver4; rw [hP, hV]
          have q1 : ∀ W, _ := fun W => less_impl W x.a x.b x.c x.pre q.a q.b q.c q.pre hxp hqp
          simp only [hV] at q1
          clear hV
          go_upto_region 7 with fail
          rw [HW4.out]
          clear m0 m1 m2 m3 m4
          have c4 := Ke.c r4
          have c5 := Ke.c r5
          cases P
          · go_wp2
            go_roundg (gk - 1)
            case rel => exact ⟨k + 1, by omega, by go_num, (by show _ = _; rw [any_snocI _ HX.out, HV.out, HI.out]; first | rfl | simp), B4, D4⟩
            case measure => omega
          · go_wp2_with fail
            refine (q1 W4).mono ?_
            rintro e W5 ⟨rfl, b5⟩
            have B5 := Ke.b B4 b5
            have D5 := Ke.b D4 b5
            cases V
            · have HA : Hid (l.any (covI q) = true) := any_hitI _ HX.out (by rw [HI.out]; rfl)
              go_wp2
              go_roundg (G - 1)
              case rel => exact ⟨j + 1, by omega, by go_num, fun y hy => by rw [take_snoc15 HQ.out] at hy; rcases List.mem_append.1 hy with h9 | h9; exact HN.out y h9; rw [List.mem_singleton.1 h9]; exact HA.out, B5⟩
              case measure => omega
            · go_wp2
              go_roundg (gk - 1)
              case rel => exact ⟨k + 1, by omega, by go_num, (by show _ = _; rw [any_snocI _ HX.out, HV.out, HI.out]; first | rfl | simp), B5, D5⟩
              case measure => omega
        · have hlt2 : ¬ (k : Int) < (l.length : Int) := by omega
          have HE : Hid (k = l.length) := by show _ = _; omega
          have HA : Hid (l.any (covI q) = false) := by have h9 := HV.out; rw [HE.out, List.take_length] at h9; exact h9
          go_wp2
          try rw [Exit.noGoto_ret]
          go_ret
          exact ⟨by rw [coversI_no HQ.out HA.out]; rfl, B3.out⟩
    · have hjt2 : ¬ (j : Int) < (s.length : Int) := by omega
      have HE : Hid (j = s.length) := by show _ = _; omega
      go_wp2
      try rw [Exit.noGoto_ret]
      go_ret
      exact ⟨by rw [coversI_yes (fun y hy => HN.out y (by rw [HE.out, List.take_length]; exact hy))]; rfl, B1.out⟩

end Go.Proofs.YtlhmemnaiobgkaaGreatDoor.Se

/- Chapter 16, the specification's side: does a list cover needs. -/
namespace Go.Proofs.YtlhmemnaiobgkaaGreatDoor.Se
open Go.RowKit Go.Proofs.YtlhmemnaiobgkaaGreatDoor.Mem Go.Proofs.YtlhmemnaiobgkaaGreatDoor.Laws Go.Proofs.YtlhmemnaiobgkaaGreatDoor.Ver Go.Proofs.YtlhmemnaiobgkaaGreatDoor.Ent Go.Proofs.YtlhmemnaiobgkaaGreatDoor.Fe
set_option linter.unusedVariables false
set_option linter.unusedSimpArgs false

theorem covers16_no {list needs : List Nd} {q : Nd} {j : Nat} (h : needs[j]? = some q) (hn : list.any (cov1 q) = false) : covers16 list needs = false := by
  unfold covers16
  rw [List.all_eq_false]
  exact ⟨q, List.mem_of_getElem? h, by rw [hn]; decide⟩
theorem covers16_yes {list needs : List Nd} (h : ∀ q ∈ needs, list.any (cov1 q) = true) : covers16 list needs = true := by
  unfold covers16
  rw [List.all_eq_true]
  exact h
theorem any_snoc16 {l : List Nd} {k : Nat} {x : Nd} (f : Nd → Bool) (h : l[k]? = some x) : (l.take (k + 1)).any f = ((l.take k).any f || f x) := by
  rw [take_snoc15 h, List.any_append]
  simp

end Go.Proofs.YtlhmemnaiobgkaaGreatDoor.Se

/- Chapter 16, the specification's side: is a list closed. -/
namespace Go.Proofs.YtlhmemnaiobgkaaGreatDoor.Se
open Go.RowKit Go.Proofs.YtlhmemnaiobgkaaGreatDoor.Mem Go.Proofs.YtlhmemnaiobgkaaGreatDoor.Laws Go.Proofs.YtlhmemnaiobgkaaGreatDoor.Ver Go.Proofs.YtlhmemnaiobgkaaGreatDoor.Ent Go.Proofs.YtlhmemnaiobgkaaGreatDoor.Fe
set_option linter.unusedVariables false
set_option linter.unusedSimpArgs false

def shut1 (l : List Ev) (list : List Nd) (q : Nd) : Bool := match find15 q l with | none => false | some e => covers16 list e.l
theorem closed16_no {l : List Ev} {s : List Nd} {q : Nd} {j : Nat} (h : s[j]? = some q) (hn : shut1 l s q = false) : closed16 l s = false := by
  unfold closed16
  rw [List.all_eq_false]
  exact ⟨q, List.mem_of_getElem? h, by show ¬ shut1 l s q = true; rw [hn]; decide⟩
theorem closed16_yes {l : List Ev} {s : List Nd} (h : ∀ q ∈ s, shut1 l s q = true) : closed16 l s = true := by
  unfold closed16
  rw [List.all_eq_true]
  exact h
theorem shut1_none {l : List Ev} {s : List Nd} {q : Nd} (h : find15 q l = none) : shut1 l s q = false := by unfold shut1; rw [h]
theorem shut1_some {l : List Ev} {s : List Nd} {q : Nd} {e : Ev} (h : find15 q l = some e) : shut1 l s q = covers16 s e.l := by unfold shut1; rw [h]

end Go.Proofs.YtlhmemnaiobgkaaGreatDoor.Se

/- Chapter 16, draws: entries, and what is wanted or selected of them. -/
namespace Go.Proofs.YtlhmemnaiobgkaaGreatDoor.Se
open Go.RowKit Go.Proofs.YtlhmemnaiobgkaaGreatDoor.Mem Go.Proofs.YtlhmemnaiobgkaaGreatDoor.Laws Go.Proofs.YtlhmemnaiobgkaaGreatDoor.Bytes Go.Proofs.YtlhmemnaiobgkaaGreatDoor.Ver Go.Proofs.YtlhmemnaiobgkaaGreatDoor.Ent Go.Proofs.YtlhmemnaiobgkaaGreatDoor.Fe Go.Proofs.YtlhmemnaiobgkaaGreatDoor.Draw
set_option linter.unusedVariables false
set_option linter.unusedSimpArgs false

theorem Dy.fits {T : List Ev} (h : ∀ x ∈ T, Dy x) : ∀ e ∈ T, e.n.path.size ≤ 1000000000000 ∧ e.n.pre.size ≤ 1000000000000 ∧ e.l.length ≤ 1000000000 ∧ ∀ x ∈ e.l, x.path.size ≤ 1000000000000 ∧ x.pre.size ≤ 1000000000000 := by
  intro e he
  obtain ⟨h1, h2, h3⟩ := h e he
  have h4 := Dn.size h1
  exact ⟨by omega, by omega, by omega, fun x hx => by have := Dn.size (h3 x hx); omega⟩
theorem Wnt.dq {T : List Ev} {R : List Nd} (h : Wnt T R) (hT : ∀ x ∈ T, Dy x) : ∀ n ∈ R, Dq n := by
  intro n hn
  obtain ⟨x, hx, rfl⟩ := h.sub n hn
  exact (hT x hx).1
theorem select_dq {T : List Ev} {R : List Nd} (hT : ∀ x ∈ T, Dy x) (hR : ∀ n ∈ R, Dq n) : ∀ n ∈ (select16 T R).1, Dq n := fun n hn =>
  (reach_size (D := Dq) hR (fun e he m hm => (hT e he).2.2 m hm)).2 n (sel_mem hn)
theorem select_sz (T : List Ev) (R : List Nd) : (select16 T R).1.length ≤ 60 := Nat.le_trans (sel_len _) (reach_size (l := T) (s := R) (D := fun _ => True) (fun _ _ => trivial) (fun _ _ _ _ => trivial)).1

set_option maxRecDepth 1000000 in
set_option maxHeartbeats 8000000 in
theorem drawWants_any (w : World) (vb : Value) (xs : List Int) (hs : Sl w vb (bs xs)) (hby : Byt xs) (hx : xs.length ≤ 140737488355328) :
    Calls Tryz.prog 19 #[vb] w fun e w' => ∃ (v v2 : Value) (T : List Ev) (s : List Nd), e = .returned (.tuple #[v, v2]) ∧ 1 ≤ T.length ∧ T.length ≤ 8 ∧ (∀ x ∈ T, Dy x) ∧ s.length ≤ 60 ∧ (∀ n ∈ s, Dq n) ∧ Se w' v T ∧ Sd w' v2 s ∧ Below w.heap.size w w' := by
  have HSL : Hid (Sl w vb (bs xs)) := hs
  clear hs
  have B0 : Hid (Below w.heap.size w w) := Below.refl _ _
  go_enter Tryz.func19, Tryz.ntmps19
  go_wp2_with fail
  refine (new_any w _ xs (HSL.out.later B0.out) hby hx).mono ?_
  rintro e W1 ⟨rfl, d1⟩
  have hcg : w.heap.size < W1.heap.size := d1.cur.lt
  have HSW : Hid (Sl w vb (bs xs)) := (HSL.out.later B0.out)
  have cu0 : Hid True := trivial
  have bw0 : Hid True := trivial
  have z1 := d1.apart.size
  have B1 : Hid (Below w.heap.size w W1) := B0.out.trans (d1.below.mono B0.out.size)
  have cu1 := Kd.e d1
  have bw1 := Kd.f d1
  clear cu0 bw0 d1
  go_wp2_with fail
  refine (draw16_any w W1 (w.heap.size) _ xs HSW.out hby hx bw1.out (Nat.le_refl _) cu1.out).mono ?_
  rintro e W2 ⟨v9, T, rfl, hT1, hT8, hDX, o9, d2⟩
  have z2 := d2.apart.size
  have B2 : Hid (Below w.heap.size w W2) := B0.out.trans (d2.below.mono B0.out.size)
  have cu2 := Kd.e d2
  have bw2 := Kd.f d2
  clear cu1 bw1 d2
  obtain ⟨ao, cap, rfl, hc9⟩ := o9.form
  have HDX := Ke.h hDX
  clear hDX
  have f_o2 : Hid (Oet W2 W1.heap.size W2.heap.size (.slice ao T.length cap) T) := o9
  clear o9
  go_wp2_with fail
  refine (roots15_any w W2 (w.heap.size) _ xs HSW.out hby hx bw2.out (Nat.le_refl _) cu2.out _ T (W1.heap.size) (W2.heap.size) f_o2.out (by omega) hT1 hT8).mono ?_
  rintro e W3 ⟨v8, R, rfl, hR1, hR3, hWN, o8, d3⟩
  have z3 := d3.apart.size
  have B3 : Hid (Below w.heap.size w W3) := B0.out.trans (d3.below.mono B0.out.size)
  have cu3 := Kd.e d3
  have bw3 := Kd.f d3
  have f_o3 : Hid (Oet W3 W1.heap.size W2.heap.size (.slice ao T.length cap) T) := Oet.drawn f_o2.out d3 (by omega)
  clear cu2 bw2 d3 f_o2
  obtain ⟨a8, c8, rfl⟩ := Od.slice o8
  have HWN := Ke.h hWN
  clear hWN
  have f_d3 : Hid (Odt W3 W2.heap.size W3.heap.size (.slice a8 R.length c8) R) := ⟨o8, Nat.le_refl _⟩
  clear o8
  go_wp2
  go_ret2
  exact ⟨_, _, T, R, rfl, hT1, hT8, HDX.out, by omega, HWN.out.dq HDX.out, f_o3.out.se, f_d3.out.1.sd, B3.out⟩

end Go.Proofs.YtlhmemnaiobgkaaGreatDoor.Se

/- Chapter 16, draws: entries and what is wanted of them, something at least. -/
namespace Go.Proofs.YtlhmemnaiobgkaaGreatDoor.Se
open Go.RowKit Go.Proofs.YtlhmemnaiobgkaaGreatDoor.Mem Go.Proofs.YtlhmemnaiobgkaaGreatDoor.Laws Go.Proofs.YtlhmemnaiobgkaaGreatDoor.Bytes Go.Proofs.YtlhmemnaiobgkaaGreatDoor.Ver Go.Proofs.YtlhmemnaiobgkaaGreatDoor.Ent Go.Proofs.YtlhmemnaiobgkaaGreatDoor.Fe Go.Proofs.YtlhmemnaiobgkaaGreatDoor.Draw
set_option linter.unusedVariables false
set_option linter.unusedSimpArgs false

set_option maxRecDepth 1000000 in
set_option maxHeartbeats 8000000 in
theorem drawWants2_any (w : World) (vb : Value) (xs : List Int) (hs : Sl w vb (bs xs)) (hby : Byt xs) (hx : xs.length ≤ 140737488355328) :
    Calls Tryz.prog 19 #[vb] w fun e w' => ∃ (v v2 : Value) (T : List Ev) (s : List Nd), e = .returned (.tuple #[v, v2]) ∧ 1 ≤ T.length ∧ T.length ≤ 8 ∧ (∀ x ∈ T, Dy x) ∧ 1 ≤ s.length ∧ s.length ≤ 3 ∧ (∀ n ∈ s, Dq n) ∧ Se w' v T ∧ Sd w' v2 s ∧ Below w.heap.size w w' := by
  have HSL : Hid (Sl w vb (bs xs)) := hs
  clear hs
  have B0 : Hid (Below w.heap.size w w) := Below.refl _ _
  go_enter Tryz.func19, Tryz.ntmps19
  go_wp2_with fail
  refine (new_any w _ xs (HSL.out.later B0.out) hby hx).mono ?_
  rintro e W1 ⟨rfl, d1⟩
  have hcg : w.heap.size < W1.heap.size := d1.cur.lt
  have HSW : Hid (Sl w vb (bs xs)) := (HSL.out.later B0.out)
  have cu0 : Hid True := trivial
  have bw0 : Hid True := trivial
  have z1 := d1.apart.size
  have B1 : Hid (Below w.heap.size w W1) := B0.out.trans (d1.below.mono B0.out.size)
  have cu1 := Kd.e d1
  have bw1 := Kd.f d1
  clear cu0 bw0 d1
  go_wp2_with fail
  refine (draw16_any w W1 (w.heap.size) _ xs HSW.out hby hx bw1.out (Nat.le_refl _) cu1.out).mono ?_
  rintro e W2 ⟨v9, T, rfl, hT1, hT8, hDX, o9, d2⟩
  have z2 := d2.apart.size
  have B2 : Hid (Below w.heap.size w W2) := B0.out.trans (d2.below.mono B0.out.size)
  have cu2 := Kd.e d2
  have bw2 := Kd.f d2
  clear cu1 bw1 d2
  obtain ⟨ao, cap, rfl, hc9⟩ := o9.form
  have HDX := Ke.h hDX
  clear hDX
  have f_o2 : Hid (Oet W2 W1.heap.size W2.heap.size (.slice ao T.length cap) T) := o9
  clear o9
  go_wp2_with fail
  refine (roots15_any w W2 (w.heap.size) _ xs HSW.out hby hx bw2.out (Nat.le_refl _) cu2.out _ T (W1.heap.size) (W2.heap.size) f_o2.out (by omega) hT1 hT8).mono ?_
  rintro e W3 ⟨v8, R, rfl, hR1, hR3, hWN, o8, d3⟩
  have z3 := d3.apart.size
  have B3 : Hid (Below w.heap.size w W3) := B0.out.trans (d3.below.mono B0.out.size)
  have cu3 := Kd.e d3
  have bw3 := Kd.f d3
  have f_o3 : Hid (Oet W3 W1.heap.size W2.heap.size (.slice ao T.length cap) T) := Oet.drawn f_o2.out d3 (by omega)
  clear cu2 bw2 d3 f_o2
  obtain ⟨a8, c8, rfl⟩ := Od.slice o8
  have HWN := Ke.h hWN
  clear hWN
  have f_d3 : Hid (Odt W3 W2.heap.size W3.heap.size (.slice a8 R.length c8) R) := ⟨o8, Nat.le_refl _⟩
  clear o8
  go_wp2
  go_ret2
  exact ⟨_, _, T, R, rfl, hT1, hT8, HDX.out, hR1, hR3, HWN.out.dq HDX.out, f_o3.out.se, f_d3.out.1.sd, B3.out⟩

end Go.Proofs.YtlhmemnaiobgkaaGreatDoor.Se
