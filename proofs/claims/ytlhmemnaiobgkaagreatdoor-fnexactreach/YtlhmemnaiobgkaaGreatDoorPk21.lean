/- Texts in one: Se7, Se9, SeA. -/
import Derived.Test.YtlhmemnaiobgkaaGreatDoorPk13
import Derived.Test.YtlhmemnaiobgkaaGreatDoorPk20
import Derived.Test.YtlhmemnaiobgkaaGreatDoorPk19
import Derived.Test.YtlhmemnaiobgkaaGreatDoorPk17
/- Chapter 16, the specification's side: what is reached. -/
namespace Go.Proofs.YtlhmemnaiobgkaaGreatDoor.Se
open Go.RowKit Go.Proofs.YtlhmemnaiobgkaaGreatDoor.Mem Go.Proofs.YtlhmemnaiobgkaaGreatDoor.Laws Go.Proofs.YtlhmemnaiobgkaaGreatDoor.Ver Go.Proofs.YtlhmemnaiobgkaaGreatDoor.Ent Go.Proofs.YtlhmemnaiobgkaaGreatDoor.Fe
set_option linter.unusedVariables false
set_option linter.unusedSimpArgs false

theorem w_none {l : List Ev} {R : List Nd} {k f : Nat} {q : Nd} (h : R[k]? = some q) (hf : find15 q l = none) : walk16 l (f + 1) R k = ([], 2) := by
  rw [walk16]; simp only [h, hf]
theorem w_bad {l : List Ev} {R : List Nd} {k f : Nat} {q : Nd} {e : Ev} (h : R[k]? = some q) (hf : find15 q l = some e) (hb : entry5 e.n e.l = false) : walk16 l (f + 1) R k = ([], 2) := by
  rw [walk16]; simp only [h, hf, hb]; rfl
theorem w_many {l : List Ev} {R : List Nd} {k f : Nat} {q : Nd} {e : Ev} (h : R[k]? = some q) (hf : find15 q l = some e) (hb : entry5 e.n e.l = true) (ha : add16 R e.l = none) : walk16 l (f + 1) R k = ([], 3) := by
  rw [walk16]; simp only [h, hf, hb, ha]; rfl
theorem w_go {l : List Ev} {R T : List Nd} {k f : Nat} {q : Nd} {e : Ev} (h : R[k]? = some q) (hf : find15 q l = some e) (hb : entry5 e.n e.l = true) (ha : add16 R e.l = some T) : walk16 l (f + 1) R k = walk16 l f T (k + 1) := by
  rw [walk16]; simp only [h, hf, hb, ha]; rfl
theorem w_end {l : List Ev} {R : List Nd} {k f : Nat} (h : R.length ≤ k) : walk16 l (f + 1) R k = (R, 0) := by
  rw [walk16, List.getElem?_eq_none h]
theorem drop_cons16 {l : List Nd} {i : Nat} {n : Nd} (h : l[i]? = some n) : l.drop i = n :: l.drop (i + 1) := by
  obtain ⟨hi, he⟩ := List.getElem?_eq_some_iff.1 h
  rw [List.drop_eq_getElem_cons hi, he]
theorem add_has {l T : List Nd} {i : Nat} {n : Nd} (h : l[i]? = some n) (hT : T.length ≤ 60) (hh : has16 T n = true) : add16 T (l.drop i) = add16 T (l.drop (i + 1)) := by
  have hp : put16 T n = T := by unfold put16; rw [if_pos hh]
  rw [drop_cons16 h, add16, hp, if_neg (by omega)]
theorem add_new {l T : List Nd} {i : Nat} {n : Nd} (h : l[i]? = some n) (hT : T.length + 1 ≤ 60) (hh : has16 T n = false) : add16 T (l.drop i) = add16 (T ++ [n]) (l.drop (i + 1)) := by
  have hp : put16 T n = T ++ [n] := by unfold put16; rw [if_neg (by rw [hh]; decide)]
  rw [drop_cons16 h, add16, hp, if_neg (by simp; omega)]
theorem add_many {l T : List Nd} {i : Nat} {n : Nd} (h : l[i]? = some n) (hT : ¬ T.length + 1 ≤ 60) (hh : has16 T n = false) : add16 T (l.drop i) = none := by
  have hp : put16 T n = T ++ [n] := by unfold put16; rw [if_neg (by rw [hh]; decide)]
  rw [drop_cons16 h, add16, hp, if_pos (by simp; omega)]
theorem none_od {W W1 W2 : World} {lo : Nat} {v : Value} (o : Od W2 lo W1.heap.size v []) (h12 : W1.heap.size ≤ W2.heap.size) (d : Below W2.heap.size W2 W) : Od W lo W.heap.size v [] := On.mono (On.later o d h12) (Nat.le_refl _) (Nat.le_trans h12 d.size)

set_option maxRecDepth 1000000 in
set_option maxHeartbeats 8000000 in
theorem reach_spec (w : World) (v1 v2 : Value) (l : List Ev) (s : List Nd) (h1 : Se w v1 l) (h2 : Sd w v2 s) (hl : l.length ≤ 1000000000) (hs : s.length ≤ 1000000000) (hy1 : ∀ e ∈ l, e.n.path.size ≤ 1000000000000 ∧ e.n.pre.size ≤ 1000000000000 ∧ e.l.length ≤ 1000000000 ∧ ∀ x ∈ e.l, x.path.size ≤ 1000000000000 ∧ x.pre.size ≤ 1000000000000) (hy2 : ∀ x ∈ s, x.path.size ≤ 1000000000000 ∧ x.pre.size ≤ 1000000000000) :
    Calls Tryz.prog 10 #[v1, v2] w fun e w' => ∃ v', e = .returned (.tuple #[v', .int .i64 (reach16 l s).2]) ∧ Od w' w.heap.size w'.heap.size v' (reach16 l s).1 ∧ Below w.heap.size w w' := by
  obtain ⟨i0, hi, hz0, hz1, hz2⟩ := info_parts infoN
  have HS1 : Hid (Se w v1 l) := h1
  have HS2 : Hid (Sd w v2 s) := h2
  obtain ⟨ao, cap, rfl, hcap⟩ := h1.form
  obtain ⟨_, ao2, cap2, rfl, hcap2, _, _⟩ := h2
  clear h1
  obtain ⟨W1, HW1, b1, hs1, o1⟩ : ∃ X, Hid (w.alloc (.cells #[] 38) = X) ∧ Below w.heap.size w X ∧ X.heap.size = w.heap.size + 1 ∧ Hid (Od X w.heap.size X.heap.size (.slice (some ⟨w.heap.size, 0, none⟩) 0 0) []) := ⟨_, rfl, (Below.refl _ _).alloc (Nat.le_refl _) _, by simp, On.lit 5 w w.heap.size 38 (Nat.le_refl _)⟩
  have q0 := needs_spec W1 (.slice ao2 s.length cap2) s (HS2.out.later b1) (by omega) hy2
  obtain ⟨N0, hN0⟩ : ∃ N, needs5 s = N := ⟨_, rfl⟩
  rw [hN0] at q0
  have HN : Hid (needs5 s = N0) := hN0
  clear hN0
  go_enter Tryz.func10, Tryz.ntmps10
  go_wp2_with fail
  rw [HW1.out]
  refine q0.mono ?_
  rintro e W2 ⟨rfl, b2⟩
  clear q0
  have z2 := b2.size
  have B2 : Hid (Below w.heap.size w W2) := b1.trans (b2.mono b1.size)
  have o2 : Hid (Od W2 w.heap.size W1.heap.size (.slice (some ⟨w.heap.size, 0, none⟩) 0 0) []) := On.later o1.out b2 (Nat.le_refl _)
  clear b1 b2 o1
  cases N0
  · have HR : Hid (reach16 l s = ([], 1)) := by show _ = _; unfold reach16; rw [if_neg (by rw [HN.out]; decide)]
    go_wp2
    go_ret2
    exact ⟨_, by rw [HR.out]; rfl, by rw [HR.out]; exact none_od o2.out z2 (Below.refl _ _), B2.out⟩
  have hs20 := (needs_up HN.out).2
  have HR : Hid (walk16 l (61 - 0) s 0 = reach16 l s) := by show _ = _; unfold reach16; rw [if_pos HN.out]
  have sA : ∀ ob, Sn 5 (W2.alloc ob) (.slice ao2 s.length cap2) s.length (nds s) := fun ob => Sn.later HS2.out (B2.out.alloc B2.out.size _)
  have OL := On.lit 5 W2 W2.heap.size 38 (Nat.le_refl _)
  have k1 : 0 + s.length ≤ maxLen := by unfold maxLen; omega
  have k2 : (0 + s.length) * 56 ≤ 140737488355328 := by omega
  go_wp2_with (at_builtin; go_must (refine wpl_appn 5 (by omega) _ rfl (.tmp 16) (.tmp 17) 25 rfl 38 i0 (.agg #[.string ⟨#[]⟩, .int .i64 0, .int .i64 0, .int .i64 0, .string ⟨#[]⟩]) 56 Tryz.underlying25 hi hz0 hz1 hz2 rfl W2.heap.size _ 0 [] rfl OL _ rfl s.length (nds s) (sA _) (nds_one s) k1 k2 (by simp) ?_))
  intro v3 W3 o3 b3 _
  have o3 : Hid (Od W3 W2.heap.size W3.heap.size v3 s) := o3
  have D3 : Hid (Below W2.heap.size W2 W3) := ((Below.refl _ _).alloc (Nat.le_refl _) _).trans b3
  clear b3 sA OL
  go_wp2_with fail
  go_loopw [7, 8] (fun rv iv wr => ∃ (k : Nat) (R : List Nd), iv = .int .i64 (k : Int) ∧ k ≤ R.length ∧ R.length ≤ 60 ∧ Hid (walk16 l (61 - k) R k = reach16 l s) ∧ Hid (Od wr W2.heap.size wr.heap.size rv R) ∧ Hid (Below W2.heap.size W2 wr)) (fun _ iv _ => 61 - (intOf iv).toNat)
  case atStart => exact ⟨0, s, rfl, Nat.zero_le _, by omega, HR, o3, D3⟩
  case round =>
    obtain ⟨k, R, rfl, hk, hR, HK, HO, D4⟩ := hrel
    obtain ⟨W4, hW4⟩ : ∃ X, X = wr := ⟨_, rfl⟩
    subst hW4
    clear HR o3 D3 k1 k2
    have B4 : Hid (Below w.heap.size w W4) := B2.out.trans (D4.out.mono B2.out.size)
    obtain ⟨aoR, capR, hrv⟩ := on_slice5 HO.out
    subst hrv
    by_cases hlt : k < R.length
    · have hlt2 : (k : Int) < (R.length : Int) := by omega
      obtain ⟨x, hx⟩ : ∃ x, R[k]? = some x := ⟨R[k], by simp [hlt]⟩
      obtain ⟨b, off, cap9, he, _, m0, m1, m2, m3, m4⟩ := Sd.at HO.out.sd hx
      simp only [Value.slice.injEq] at he
      obtain ⟨rfl, _, rfl⟩ := he
      have HX : Hid (R[k]? = some x) := hx
      clear hx
      have HK : Hid (walk16 l ((60 - k) + 1) R k = reach16 l s) := by have h9 := HK.out; rw [show 61 - k = (60 - k) + 1 by omega] at h9; exact h9
      have q1 : ∀ W, Below w.heap.size w W → _ := fun W hW => at15_spec W _ l x (HS1.out.later hW) (by omega)
      rcases at15_find x l 0 with ⟨f1, f2⟩ | ⟨m, y, f1, f2, f3⟩
      · simp only [f1] at q1
        have HF : Hid (reach16 l s = ([], 2)) := HK.out.symm.trans (w_none HX.out f2)
        clear f1 f2
        go_wp2_with fail
        refine wp_region_held_drew (S := fun w' => w'.cell? ⟨b, off + k * 5, none⟩ = some (.string x.path) ∧ w'.cell? ⟨b, off + k * 5 + 1, none⟩ = some (.int .i64 x.a) ∧ w'.cell? ⟨b, off + k * 5 + 2, none⟩ = some (.int .i64 x.b) ∧ w'.cell? ⟨b, off + k * 5 + 3, none⟩ = some (.int .i64 x.c) ∧ w'.cell? ⟨b, off + k * 5 + 4, none⟩ = some (.string x.pre)) (by kernel_rfl) ⟨m0, m1, m2, m3, m4⟩ (fun hHeld => ?_)
        obtain ⟨W5, HW5, b5⟩ : ∃ X, Hid (W4.drew = X) ∧ Below W4.heap.size W4 X := ⟨_, rfl, Below.drew (Below.refl _ _)⟩
        have HHW5 := HW5.out
        rw [HHW5] at hHeld ⊢
        clear HHW5
        have z5 := b5.size
        have B5 := Ke.b B4 b5
        refine Ke.y 0 rfl (fun _ _ _ h => h) ?_
        try simp only [Act.put, pu1, pu2, pu3, pu4, pu5, pu6]
        refine Ke.y 1 rfl (fun _ _ _ h => h) ?_
        try simp only [Act.put, pu1, pu2, pu3, pu4, pu5, pu6]
        refine Ke.y 2 rfl (fun _ _ _ h => h) ?_
        try simp only [Act.put, pu1, pu2, pu3, pu4, pu5, pu6]
        refine Ke.y 3 rfl (fun _ _ _ h => h) ?_
        try simp only [Act.put, pu1, pu2, pu3, pu4, pu5, pu6]
        refine Ke.y 4 rfl (fun _ _ _ h => h) ?_
        try simp only [Act.put, pu1, pu2, pu3, pu4, pu5, pu6]
        refine Ke.y 5 rfl (fun _ _ _ h => h) ?_
        try simp only [Act.put, pu1, pu2, pu3, pu4, pu5, pu6]
        refine Ke.y 6 rfl (fun _ _ _ h => h) ?_
        try simp only [Act.put, pu1, pu2, pu3, pu4, pu5, pu6]
        refine Ke.y 7 rfl (fun _ _ _ h => h) ?_
        try simp only [Act.put, pu1, pu2, pu3, pu4, pu5, pu6]
        refine Ke.y 8 rfl (fun _ _ _ h => h) ?_
        try simp only [Act.put, pu1, pu2, pu3, pu4, pu5, pu6]
        refine Ke.y 9 rfl (fun _ _ _ h => h) ?_
        try simp only [Act.put, pu1, pu2, pu3, pu4, pu5, pu6]
        refine Ke.y 10 rfl (fun _ _ _ h => h) ?_
        try simp only [Act.put, pu1, pu2, pu3, pu4, pu5, pu6]
        refine Ke.z 11 rfl (fun K hK => ?_)
        go_simp
        refine (q1 W5 B5.out).mono ?_
        rintro e W6 ⟨rfl, b6⟩
        refine hK.out _ _ ⟨(keepR (W := W5) hHeld.1 b6), (keepR (W := W5) hHeld.2.1 b6), (keepR (W := W5) hHeld.2.2.1 b6), (keepR (W := W5) hHeld.2.2.2.1 b6), (keepR (W := W5) hHeld.2.2.2.2 b6)⟩ (fun hHeld => ?_)
        clear hK K
        try simp only [Act.put, pu1, pu2, pu3, pu4, pu5, pu6]
        have z6 := b6.size
        have B6 := Ke.b B5 b6
        refine Ke.y 12 rfl (fun _ _ _ h => h) ?_
        try simp only [Act.put, pu1, pu2, pu3, pu4, pu5, pu6]
        refine wpAnyH_done (by kernel_rfl) ?_ _
        clear hHeld
        have bw : Below W4.heap.size W4 W6 := b5.trans (b6.mono b5.size)
        have D6 := Ke.b D4 bw
        have HO6 : Hid (Od W6 W2.heap.size W6.heap.size _ R) := Od.up HO.out bw
        clear HO bw D4 m0 m1 m2 m3 m4 q1
        go_wp2
        go_ret2
        exact ⟨_, by rw [HF.out]; rfl, by rw [HF.out]; exact none_od o2.out z2 D6.out, B6.out⟩
      · simp only [f1, Nat.zero_add] at q1
        have HF : Hid (find15 x l = some y) := f3
        have hm : m < l.length := (List.getElem?_eq_some_iff.1 f2).1
        have hm2 : (m : Int) < (l.length : Int) := by omega
        have hm3 : ¬ (m : Int) < 0 := by omega
        have HY : Hid (l[m]? = some y) := f2
        obtain ⟨hya, hyb, hyc, hyd⟩ := hy1 y (List.mem_of_getElem? f2)
        clear f1 f2 f3
        go_wp2_with fail
        refine wp_region_held_drew (S := fun w' => w'.cell? ⟨b, off + k * 5, none⟩ = some (.string x.path) ∧ w'.cell? ⟨b, off + k * 5 + 1, none⟩ = some (.int .i64 x.a) ∧ w'.cell? ⟨b, off + k * 5 + 2, none⟩ = some (.int .i64 x.b) ∧ w'.cell? ⟨b, off + k * 5 + 3, none⟩ = some (.int .i64 x.c) ∧ w'.cell? ⟨b, off + k * 5 + 4, none⟩ = some (.string x.pre)) (by kernel_rfl) ⟨m0, m1, m2, m3, m4⟩ (fun hHeld => ?_)
        obtain ⟨W5, HW5, b5⟩ : ∃ X, Hid (W4.drew = X) ∧ Below W4.heap.size W4 X := ⟨_, rfl, Below.drew (Below.refl _ _)⟩
        have HHW5 := HW5.out
        rw [HHW5] at hHeld ⊢
        clear HHW5
        have z5 := b5.size
        have B5 := Ke.b B4 b5
        refine Ke.y 0 rfl (fun _ _ _ h => h) ?_
        try simp only [Act.put, pu1, pu2, pu3, pu4, pu5, pu6]
        refine Ke.y 1 rfl (fun _ _ _ h => h) ?_
        try simp only [Act.put, pu1, pu2, pu3, pu4, pu5, pu6]
        refine Ke.y 2 rfl (fun _ _ _ h => h) ?_
        try simp only [Act.put, pu1, pu2, pu3, pu4, pu5, pu6]
        refine Ke.y 3 rfl (fun _ _ _ h => h) ?_
        try simp only [Act.put, pu1, pu2, pu3, pu4, pu5, pu6]
        refine Ke.y 4 rfl (fun _ _ _ h => h) ?_
        try simp only [Act.put, pu1, pu2, pu3, pu4, pu5, pu6]
        refine Ke.y 5 rfl (fun _ _ _ h => h) ?_
        try simp only [Act.put, pu1, pu2, pu3, pu4, pu5, pu6]
        refine Ke.y 6 rfl (fun _ _ _ h => h) ?_
        try simp only [Act.put, pu1, pu2, pu3, pu4, pu5, pu6]
        refine Ke.y 7 rfl (fun _ _ _ h => h) ?_
        try simp only [Act.put, pu1, pu2, pu3, pu4, pu5, pu6]
        refine Ke.y 8 rfl (fun _ _ _ h => h) ?_
        try simp only [Act.put, pu1, pu2, pu3, pu4, pu5, pu6]
        refine Ke.y 9 rfl (fun _ _ _ h => h) ?_
        try simp only [Act.put, pu1, pu2, pu3, pu4, pu5, pu6]
        refine Ke.y 10 rfl (fun _ _ _ h => h) ?_
        try simp only [Act.put, pu1, pu2, pu3, pu4, pu5, pu6]
        refine Ke.z 11 rfl (fun K hK => ?_)
        go_simp
        refine (q1 W5 B5.out).mono ?_
        rintro e W6 ⟨rfl, b6⟩
        refine hK.out _ _ ⟨(keepR (W := W5) hHeld.1 b6), (keepR (W := W5) hHeld.2.1 b6), (keepR (W := W5) hHeld.2.2.1 b6), (keepR (W := W5) hHeld.2.2.2.1 b6), (keepR (W := W5) hHeld.2.2.2.2 b6)⟩ (fun hHeld => ?_)
        clear hK K
        try simp only [Act.put, pu1, pu2, pu3, pu4, pu5, pu6]
        have z6 := b6.size
        have B6 := Ke.b B5 b6
        refine Ke.y 12 rfl (fun _ _ _ h => h) ?_
        try simp only [Act.put, pu1, pu2, pu3, pu4, pu5, pu6]
        refine wpAnyH_done (by kernel_rfl) ?_ _
        clear hHeld
        have bw : Below W4.heap.size W4 W6 := b5.trans (b6.mono b5.size)
        have D6 := Ke.b D4 bw
        have HO6 : Hid (Od W6 W2.heap.size W6.heap.size _ R) := Od.up HO.out bw
        clear HO bw D4 m0 m1 m2 m3 m4 q1
        obtain ⟨b_, off_, cap8, he, _, p0, p1, p2, p3, p4, p5, hsd⟩ := Se.at (HS1.out.later B2.out) HY.out
        simp only [Value.slice.injEq] at he
        obtain ⟨rfl, _, rfl⟩ := he
        have HSD : Hid (Sd W2 y.u y.l) := hsd
        obtain ⟨_, aoU, capU, hu, hcapU, _, _⟩ := hsd
        rw [hu] at p5
        obtain ⟨E, hE⟩ : ∃ E, entry5 y.n y.l = E := ⟨_, rfl⟩
        have q2 := entryok_spec W6 y.n y.u y.l (HSD.out.later D6.out) (by omega) hya hyb hyd
        rw [hu, hE] at q2
        have HE5 : Hid (entry5 y.n y.l = E) := hE
        have HU : Hid (y.u = .slice aoU y.l.length capU) := hu
        clear hE hu
        have s0 := keepR p0 D6.out
        have s1 := keepR p1 D6.out
        have s2 := keepR p2 D6.out
        have s3 := keepR p3 D6.out
        have s4 := keepR p4 D6.out
        have s5 := keepR p5 D6.out
        go_wp2_with fail
        refine q2.mono ?_
        rintro e W7 ⟨rfl, b7⟩
        clear q2 s0 s1 s2 s3 s4 s5
        have B7 := Ke.b B6 b7
        have D7 := Ke.b D6 b7
        have HO7 : Hid (Od W7 W2.heap.size W7.heap.size _ R) := Od.up HO6.out b7
        clear HO6 D6 b7
        cases E
        · have HF2 : Hid (reach16 l s = ([], 2)) := HK.out.symm.trans (w_bad HX.out HF.out HE5.out)
          go_wp2
          go_ret2
          exact ⟨_, by rw [HF2.out]; rfl, by rw [HF2.out]; exact none_od o2.out z2 D7.out, B7.out⟩
        · go_wp2_with fail
          go_loopw [7, 10] (fun rv mv wr => ∃ (i : Nat) (T : List Nd), mv = .int .i64 (i : Int) ∧ i ≤ y.l.length ∧ R.length ≤ T.length ∧ T.length ≤ 60 ∧ Hid (add16 T (y.l.drop i) = add16 R y.l) ∧ Hid (Od wr W2.heap.size wr.heap.size rv T) ∧ Hid (Below W2.heap.size W2 wr)) (fun _ mv _ => y.l.length - (intOf mv).toNat)
          case atStart => exact ⟨0, R, rfl, Nat.zero_le _, Nat.le_refl _, hR, rfl, HO7, D7⟩
          case round =>
            obtain ⟨i, T, rfl, hiy, hRT, hT, HA, HT, D8⟩ := hrel
            obtain ⟨W8, hW8⟩ : ∃ X, X = wr := ⟨_, rfl⟩
            subst hW8
            clear HO7 D7 B7 B6 B4
            have B8 : Hid (Below w.heap.size w W8) := B2.out.trans (D8.out.mono B2.out.size)
            obtain ⟨aoT, capT, hrv⟩ := on_slice5 HT.out
            subst hrv
            have s5 := keepR p5 D8.out
            by_cases hit : i < y.l.length
            · have hit2 : (i : Int) < (y.l.length : Int) := by omega
              obtain ⟨n, hn⟩ : ∃ n, y.l[i]? = some n := ⟨y.l[i], by simp [hit]⟩
              obtain ⟨b3, off3, cap7, he, _, t0, t1, t2, t3, t4⟩ := Sd.at HSD.out hn
              rw [HU.out] at he
              simp only [Value.slice.injEq] at he
              obtain ⟨rfl, _, rfl⟩ := he
              have HNN : Hid (y.l[i]? = some n) := hn
              clear hn
              have u0 := keepR t0 D8.out
              have u1 := keepR t1 D8.out
              have u2 := keepR t2 D8.out
              have u3 := keepR t3 D8.out
              have u4 := keepR t4 D8.out
              obtain ⟨V, hV⟩ : ∃ V, has16 T n = V := ⟨_, rfl⟩
              have q3 := has_spec W8 _ T n HT.out.sd (by omega)
              rw [hV] at q3
              have HV : Hid (has16 T n = V) := hV
              clear hV
              go_wp2_with fail
              refine q3.mono ?_
              rintro e W9 ⟨rfl, b9⟩
              clear q3
              have D9 := Ke.b D8 b9
              have B9 := Ke.b B8 b9
              have HT9 : Hid (Od W9 W2.heap.size W9.heap.size _ T) := Od.up HT.out b9
              have hT60 : ¬ (60 : Int) < (T.length : Int) := by omega
              clear HT D8 b9 B8 s5 u0 u1 u2 u3 u4
              cases V
              · have u0 := keepR t0 D9.out
                have u1 := keepR t1 D9.out
                have u2 := keepR t2 D9.out
                have u3 := keepR t3 D9.out
                have u4 := keepR t4 D9.out
                have s5 := keepR p5 D9.out
                have k1 : T.length + 1 ≤ maxLen := by unfold maxLen; omega
                have k2 : (T.length + 1) * 56 ≤ 140737488355328 := by omega
                have k3 : ∀ ob, W2.heap.size ≤ (W9.alloc ob).heap.size := fun ob => by have := D9.out.size; simp; omega
                have O2 : ∀ ob, On 5 (W9.alloc ob) W2.heap.size (W9.alloc ob).heap.size 38 _ T.length (nds T) := fun ob => On.alloc HT9.out ob
                go_wp2_with (at_builtin; go_must (refine wpl_appn 5 (by omega) _ rfl (.tmp 69) (.tmp 78) 25 rfl 38 i0 (.agg #[.string ⟨#[]⟩, .int .i64 0, .int .i64 0, .int .i64 0, .string ⟨#[]⟩]) 56 Tryz.underlying25 hi hz0 hz1 hz2 rfl W2.heap.size _ T.length (nds T) rfl (O2 _) _ rfl 1 n.cs (Sn.one 5 W9 (nc n) 38 rfl) (cs_oneN n) k1 k2 (k3 _) ?_))
                intro v0 W0 o0 b0 _
                have HO0 : Hid (Od W0 W2.heap.size W0.heap.size v0 (T ++ [n])) := Od.snoc o0
                have D0 : Hid (Below W2.heap.size W2 W0) := (D9.out.alloc D9.out.size _).trans b0
                have B0 : Hid (Below w.heap.size w W0) := B2.out.trans (D0.out.mono B2.out.size)
                clear O2 b0 u0 u1 u2 u3 u4 s5
                obtain ⟨ao0, cap0, hrv⟩ := on_slice5 o0
                subst hrv
                clear o0
                by_cases h60 : T.length + 1 ≤ 60
                · have h61 : ¬ (60 : Int) < ((T.length + 1 : Nat) : Int) := by omega
                  go_wp2
                  go_roundw
                  case rel => exact ⟨i + 1, T ++ [n], by go_num, by omega, by simp; omega, by simp; omega, (add_new HNN.out h60 HV.out).symm.trans HA.out, HO0, D0⟩
                  case measure => simp [intOf]; omega
                · have h61 : (60 : Int) < ((T.length + 1 : Nat) : Int) := by omega
                  have HF2 : Hid (reach16 l s = ([], 3)) := HK.out.symm.trans (w_many HX.out HF.out HE5.out (HA.out.symm.trans (add_many HNN.out h60 HV.out)))
                  go_wp2
                  go_ret2
                  exact ⟨_, by rw [HF2.out]; rfl, by rw [HF2.out]; exact none_od o2.out z2 D0.out, B0.out⟩
              · go_wp2
                go_roundw
                case rel => exact ⟨i + 1, T, by go_num, by omega, hRT, hT, (add_has HNN.out hT HV.out).symm.trans HA.out, HT9, D9⟩
                case measure => simp [intOf]; omega
            · have hit2 : ¬ (i : Int) < (y.l.length : Int) := by omega
              have HAA : Hid (add16 R y.l = some T) := by have h9 := HA.out; rw [List.drop_of_length_le (by omega)] at h9; exact h9.symm
              go_wp2
              go_roundw
              case rel => exact ⟨k + 1, T, by go_num, by omega, hT, by show _ = _; rw [show 61 - (k + 1) = 60 - k by omega, ← w_go HX.out HF.out HE5.out HAA.out]; exact HK.out, HT, D8⟩
              case measure => simp [intOf]; omega
    · have hlt2 : ¬ (k : Int) < (R.length : Int) := by omega
      have HF : Hid (reach16 l s = (R, 0)) := by have h9 := HK.out; rw [show 61 - k = (60 - k) + 1 by omega, w_end (by omega)] at h9; exact h9.symm
      go_wp2
      go_ret2
      exact ⟨_, by rw [HF.out]; rfl, by rw [HF.out]; exact On.mono HO.out B2.out.size (Nat.le_refl _), B4.out⟩

end Go.Proofs.YtlhmemnaiobgkaaGreatDoor.Se

/- Chapter 16, the specification's side: Select. -/
namespace Go.Proofs.YtlhmemnaiobgkaaGreatDoor.Se
open Go.RowKit Go.Proofs.YtlhmemnaiobgkaaGreatDoor.Mem Go.Proofs.YtlhmemnaiobgkaaGreatDoor.Laws Go.Proofs.YtlhmemnaiobgkaaGreatDoor.Ver Go.Proofs.YtlhmemnaiobgkaaGreatDoor.Ent Go.Proofs.YtlhmemnaiobgkaaGreatDoor.Fe
set_option linter.unusedVariables false
set_option linter.unusedSimpArgs false

theorem ins_len (l : List Nd) (n : Nd) : (insN l n).length ≤ l.length + 1 := by
  have htd : (l.takeWhile (lts n)).length + (l.dropWhile (lts n)).length = l.length := by rw [← List.length_append, List.takeWhile_append_dropWhile]
  have := List.length_filter_le (nes n) (l.dropWhile (lts n))
  rw [ins_form]
  simp
  omega
theorem max_len (l : List Nd) (n : Nd) : (max16 l n).length ≤ l.length + 1 := by
  unfold max16
  split
  · omega
  · exact ins_len l n
theorem max_mem {l : List Nd} {n x : Nd} (h : x ∈ max16 l n) : x ∈ l ∨ x = n := by
  unfold max16 at h
  split at h
  · exact .inl h
  · rcases ins_mem h with h | h
    · exact .inr h
    · exact .inl h
theorem sel_fold_len : ∀ (r l : List Nd), (r.foldl max16 l).length ≤ l.length + r.length := by
  intro r
  induction r with
  | nil => intro l; simp
  | cons n r ih =>
    intro l
    have h1 := ih (max16 l n)
    have h2 := max_len l n
    rw [List.foldl_cons]
    simp only [List.length_cons]
    omega
theorem sel_len (r : List Nd) : (sel16 r).length ≤ r.length := by
  have := sel_fold_len r []
  simpa [sel16] using this
theorem sel_fold_mem : ∀ (r l : List Nd) (x : Nd), x ∈ r.foldl max16 l → x ∈ l ∨ x ∈ r := by
  intro r
  induction r with
  | nil => intro l x h; exact .inl h
  | cons n r ih =>
    intro l x h
    rw [List.foldl_cons] at h
    rcases ih _ _ h with h | h
    · rcases max_mem h with h | rfl
      · exact .inl h
      · exact .inr (by simp)
    · exact .inr (by simp [h])
theorem sel_mem {r : List Nd} {x : Nd} (h : x ∈ sel16 r) : x ∈ r := by
  rcases sel_fold_mem r [] x h with h | h
  · cases h
  · exact h
theorem sel_snoc {r : List Nd} {k : Nat} {q : Nd} (h : r[k]? = some q) : sel16 (r.take (k + 1)) = max16 (sel16 (r.take k)) q := by
  rw [take_snoc15 h]
  unfold sel16
  rw [List.foldl_append]
  rfl
theorem reach_size {l : List Ev} {s : List Nd} {D : Nd → Prop} (h1 : ∀ q ∈ s, D q) (h2 : ∀ e ∈ l, ∀ n ∈ e.l, D n) : (reach16 l s).1.length ≤ 60 ∧ ∀ x ∈ (reach16 l s).1, D x := by
  rcases reach16_code l s with h | ⟨h, _⟩
  · have := reach_rch h
    exact ⟨this.len, this.all h1 h2⟩
  · rw [h]; exact ⟨by simp, fun x hx => (List.not_mem_nil hx).elim⟩

set_option maxRecDepth 1000000 in
set_option maxHeartbeats 8000000 in
theorem select_spec (w : World) (v1 v2 : Value) (l : List Ev) (s : List Nd) (h1 : Se w v1 l) (h2 : Sd w v2 s) (hl : l.length ≤ 1000000000) (hs : s.length ≤ 1000000000) (hy1 : ∀ e ∈ l, e.n.path.size ≤ 1000000000000 ∧ e.n.pre.size ≤ 1000000000000 ∧ e.l.length ≤ 1000000000 ∧ ∀ x ∈ e.l, x.path.size ≤ 1000000000000 ∧ x.pre.size ≤ 1000000000000) (hy2 : ∀ x ∈ s, x.path.size ≤ 1000000000000 ∧ x.pre.size ≤ 1000000000000) :
    Calls Tryz.prog 20 #[v1, v2] w fun e w' => ∃ v', e = .returned (.tuple #[v', .int .i64 (select16 l s).2]) ∧ Od w' w.heap.size w'.heap.size v' (select16 l s).1 ∧ Below w.heap.size w w' := by
  obtain ⟨hR60, hRz⟩ := reach_size (l := l) (s := s) (D := fun x => x.path.size ≤ 1000000000000 ∧ x.pre.size ≤ 1000000000000) hy2 (fun e he n hn => (hy1 e he).2.2.2 n hn)
  have q1 := reach_spec w v1 v2 l s h1 h2 hl hs hy1 hy2
  have e1 : (select16 l s).1 = sel16 (reach16 l s).1 := rfl
  have e2 : (select16 l s).2 = (reach16 l s).2 := rfl
  rw [e1, e2]
  clear e1 e2
  obtain ⟨R, hR⟩ : ∃ R, (reach16 l s).1 = R := ⟨_, rfl⟩
  obtain ⟨c, hc⟩ : ∃ c, (reach16 l s).2 = c := ⟨_, rfl⟩
  rw [hR] at hR60 hRz
  simp only [hR, hc] at q1 ⊢
  clear hR hc h1 h2
  have HRZ : Hid (∀ x ∈ R, x.path.size ≤ 1000000000000 ∧ x.pre.size ≤ 1000000000000) := hRz
  clear hRz
  go_enter Tryz.func20, Tryz.ntmps20
  go_wp2_with fail
  refine q1.mono ?_
  rintro e W1 ⟨v3, rfl, o1, b1⟩
  clear q1
  have O1 : Hid (Od W1 w.heap.size W1.heap.size v3 R) := o1
  have B1 : Hid (Below w.heap.size w W1) := b1
  obtain ⟨aoR, capR, hrv⟩ := on_slice5 o1
  subst hrv
  clear o1 b1
  have OL : Hid (Od (W1.alloc (.cells #[] 38)) W1.heap.size (W1.alloc (.cells #[] 38)).heap.size (.slice (some ⟨W1.heap.size, 0, none⟩) 0 0) []) := On.lit 5 W1 W1.heap.size 38 (Nat.le_refl _)
  have DL : Hid (Below W1.heap.size W1 (W1.alloc (.cells #[] 38))) := (Below.refl _ _).alloc (Nat.le_refl _) _
  go_wp2_with fail
  go_loopw [8, 9] (fun ov iv wr => ∃ (k : Nat), iv = .int .i64 (k : Int) ∧ k ≤ R.length ∧ Hid (Od wr W1.heap.size wr.heap.size ov (sel16 (R.take k))) ∧ Hid (Below W1.heap.size W1 wr)) (fun _ iv _ => R.length - (intOf iv).toNat)
  case atStart => exact ⟨0, rfl, Nat.zero_le _, OL, DL⟩
  case round =>
    obtain ⟨k, rfl, hk, HO, D2⟩ := hrel
    obtain ⟨W2, hW2⟩ : ∃ X, X = wr := ⟨_, rfl⟩
    subst hW2
    clear OL DL
    have B2 : Hid (Below w.heap.size w W2) := B1.out.trans (D2.out.mono B1.out.size)
    by_cases hlt : k < R.length
    · have hlt2 : (k : Int) < (R.length : Int) := by omega
      obtain ⟨q, hq⟩ : ∃ q, R[k]? = some q := ⟨R[k], by simp [hlt]⟩
      obtain ⟨b, off, cap9, he, _, m0, m1, m2, m3, m4⟩ := Sd.at O1.out.sd hq
      simp only [Value.slice.injEq] at he
      obtain ⟨rfl, _, rfl⟩ := he
      have HQ : Hid (R[k]? = some q) := hq
      have hqz := (HRZ.out q (List.mem_of_getElem? hq)).2
      clear hq
      have u0 := keepR m0 D2.out
      have u1 := keepR m1 D2.out
      have u2 := keepR m2 D2.out
      have u3 := keepR m3 D2.out
      have u4 := keepR m4 D2.out
      clear m0 m1 m2 m3 m4
      obtain ⟨T, hT⟩ : ∃ T, sel16 (R.take k) = T := ⟨_, rfl⟩
      have hTl : T.length ≤ 60 := by have := sel_len (R.take k); rw [hT] at this; simp at this; omega
      have hTz : ∀ x ∈ T, x.pre.size ≤ 1000000000000 := fun x hx => by rw [← hT] at hx; exact (HRZ.out x (List.mem_of_mem_take (sel_mem hx))).2
      have HT : Hid (sel16 (R.take (k + 1)) = max16 T q) := by show _ = _; rw [sel_snoc HQ.out, hT]
      have h9 := HO.out
      rw [hT] at h9
      obtain ⟨aoT, capT, hrv⟩ := on_slice5 h9
      subst hrv
      have HO2 : Hid (Od W2 W1.heap.size W2.heap.size (.slice aoT T.length capT) T) := h9
      clear HO hT h9
      have q2 := max_spec W2 (.slice aoT T.length capT) T q HO2.out.sd (by omega) hTz hqz
      go_wp2_with fail
      refine q2.mono ?_
      rintro e W3 ⟨v4, rfl, o4, b4⟩
      clear q2 u0 u1 u2 u3 u4
      have HO3 : Hid (Od W3 W1.heap.size W3.heap.size v4 (max16 T q)) := by
        rcases o4 with ⟨h8, h9⟩ | h9
        · rw [h8, h9]; exact Od.up HO2.out b4
        · exact On.mono h9 D2.out.size (Nat.le_refl _)
      have D3 : Hid (Below W1.heap.size W1 W3) := D2.out.trans (b4.mono D2.out.size)
      clear o4 b4
      go_wp2
      go_roundw
      case rel => exact ⟨k + 1, by go_num, by omega, by rw [HT.out]; exact HO3, D3⟩
      case measure => simp [intOf]; omega
    · have hlt2 : ¬ (k : Int) < (R.length : Int) := by omega
      have HE : Hid (k = R.length) := by show _ = _; omega
      go_wp2
      go_ret2
      exact ⟨_, rfl, by have h9 := HO.out; rw [HE.out, List.take_length] at h9; exact On.mono h9 B1.out.size (Nat.le_refl _), B2.out⟩

end Go.Proofs.YtlhmemnaiobgkaaGreatDoor.Se

/- Chapter 16: the exact laws of Reach and Select, over contracts of the landed functions. -/
namespace Go.Proofs.YtlhmemnaiobgkaaGreatDoor.Se
open Go.RowKit Go.Proofs.YtlhmemnaiobgkaaGreatDoor.Mem Go.Proofs.YtlhmemnaiobgkaaGreatDoor.Laws Go.Proofs.YtlhmemnaiobgkaaGreatDoor.Ver Go.Proofs.YtlhmemnaiobgkaaGreatDoor.Ent Go.Proofs.YtlhmemnaiobgkaaGreatDoor.Strs Go.Proofs.YtlhmemnaiobgkaaGreatDoor.Fe
set_option linter.unusedVariables false
set_option linter.unusedSimpArgs false

theorem alk_find (q : Nd) : ∀ (l T : List Ev), Alk l T → (find15 q T).map key15 = (find15 q l).map key15 := by
  intro l
  induction l with
  | nil =>
    intro T h
    have : T = [] := by simpa [Alk] using h
    subst this
    rfl
  | cons x r ih =>
    intro T h
    cases T with
    | nil => have := h.len; simp at this
    | cons t T =>
      have h' : key15 t :: T.map key15 = key15 x :: r.map key15 := h
      simp only [List.cons.injEq] at h'
      obtain ⟨h1, h2⟩ := h'
      have hn : t.n = x.n := congrArg Prod.fst h1
      unfold find15
      rw [List.find?_cons, List.find?_cons, hn]
      cases isN q x.n with
      | true => show some (key15 t) = some (key15 x); rw [h1]
      | false => exact ih T h2
theorem alk_walk {l T : List Ev} (h : Alk l T) : ∀ (f : Nat) (R : List Nd) (k : Nat), walk16 T f R k = walk16 l f R k := by
  intro f
  induction f with
  | zero => intro R k; rfl
  | succ f ih =>
    intro R k
    rw [walk16, walk16]
    cases R[k]? with
    | none => rfl
    | some q =>
      have hf := alk_find q l T h
      cases h1 : find15 q l with
      | none =>
        rw [h1] at hf
        cases h2 : find15 q T with
        | none => simp only [h1, h2]
        | some e => rw [h2] at hf; cases hf
      | some e =>
        rw [h1] at hf
        cases h2 : find15 q T with
        | none => rw [h2] at hf; cases hf
        | some e2 =>
          rw [h2] at hf
          simp only [Option.map_some, Option.some.injEq] at hf
          have e1 : e2.n = e.n := congrArg Prod.fst hf
          have e3 : e2.l = e.l := congrArg Prod.snd hf
          simp only [h1, h2, e1, e3, ih]
theorem alk_reach {l T : List Ev} (h : Alk l T) (s : List Nd) : reach16 T s = reach16 l s := by unfold reach16; rw [alk_walk h]
theorem alk_select {l T : List Ev} (h : Alk l T) (s : List Nd) : select16 T s = select16 l s := by unfold select16; rw [alk_reach h]
theorem Fit2.reach {T : List Ev} (h : ∀ x ∈ T, Fit2 x) : ∀ e ∈ T, e.n.path.size ≤ 1000000000000 ∧ e.n.pre.size ≤ 1000000000000 ∧ e.l.length ≤ 1000000000 ∧ ∀ x ∈ e.l, x.path.size ≤ 1000000000000 ∧ x.pre.size ≤ 1000000000000 := by
  intro e he
  obtain ⟨⟨h1, h2, h3⟩, h4⟩ := h e he
  exact ⟨by omega, by omega, by omega, fun x hx => by have := h3 x hx; omega⟩
theorem reach_len (l : List Ev) (s : List Nd) : (reach16 l s).1.length ≤ 60 := (reach_size (D := fun _ => True) (fun _ _ => trivial) (fun _ _ _ _ => trivial)).1
theorem select_len (l : List Ev) (s : List Nd) : (select16 l s).1.length ≤ 60 := Nat.le_trans (sel_len _) (reach_len l s)

set_option maxRecDepth 1000000 in
set_option maxHeartbeats 4000000 in
theorem exact_reach (w : World) (v v1 : Value) (l : List Ev) (s : List Nd) (h : Se w v l) (y : ∀ x ∈ l, Oke x) (hm : l.length ≤ maxLen) (h1 : Sd w v1 s) (y1 : ∀ n ∈ s, Open.Okn n) (hm2 : s.length ≤ maxLen)
    (iR : ∀ W v' u' T, Below w.heap.size w W → Se W v' T → Sd W u' s → T.length ≤ 1048576 → (∀ x ∈ T, Fit2 x) → s.length ≤ 1048576 → (∀ n ∈ s, n.path.size ≤ 1048576 ∧ n.pre.size ≤ 1048576) → Calls Tryz.prog 9 #[v', u'] W fun e w' => ∃ v', e = .returned (.tuple #[v', .int .i64 (reach16 T s).2]) ∧ Od w' W.heap.size w'.heap.size v' (reach16 T s).1 ∧ Below W.heap.size W w') :
    Calls Tryz.prog 6 #[v, v1] w fun e w' => e = .returned (.bool true) ∧ Below w.heap.size w w' := by
  unfold maxLen at hm hm2
  have HS : Hid (Se w v l) := h
  have HD : Hid (Sd w v1 s) := h1
  have HY : Hid (∀ n ∈ s, Open.Okn n) := y1
  have q0 := sz_entries w v l 1048576 h (fun x hx => (y x hx).big) (by omega) (by omega)
  clear h h1 y y1
  go_enter Tryz.func6, Tryz.ntmps6
  go_wp2_with fail
  refine (q0).mono ?_
  rintro e W1 ⟨⟨r, rfl, hr, hor⟩, b1⟩
  have z1 := b1.size
  have B1 : Hid (Below w.heap.size w W1) := b1
  clear b1 
  rcases hor with hr0 | ⟨hr0, ht, hf⟩
  · go_wp2
    go_ret
    exact ⟨rfl, B1.out⟩
  have hr1 : ¬ r < 0 := by omega
  have htl := tot15_len l
  have hl : l.length ≤ 1048576 := by omega
  have HN : Hid (∀ x ∈ l, x.l.length ≤ 1048576) := fun x hx => by have := tot15_mem hx; omega
  have HF : Hid (∀ x ∈ l, Fit2 x) := fun x hx => ⟨hf x hx, HN.out x hx⟩
  have htt : tot15 l ≤ 1048576 := by omega
  clear hf q0
  obtain ⟨r0, rfl⟩ : ∃ r0 : Nat, r = (r0 : Int) := ⟨r.toNat, by omega⟩
  go_wp2_with fail
  refine (sz_needs2 W1 v1 s r0 (Sd.later HD.out B1.out) (fun n hn => ⟨(HY.out n hn).2.1, (HY.out n hn).2.2⟩) (by omega) (by omega)).mono ?_
  rintro e W2 ⟨⟨r2, rfl, hr2, hor2⟩, b2⟩
  have z2 := b2.size
  have B2 : Hid (Below w.heap.size w W2) := B1.out.trans (b2.mono B1.out.size)
  clear b2 B1
  rcases hor2 with hs0 | ⟨hs0, hs1, hs2⟩
  · go_wp2
    go_ret
    exact ⟨rfl, B2.out⟩
  have hr3 : ¬ r2 < 0 := by omega
  have hs : s.length ≤ 1048576 := by omega
  have HSF : Hid (∀ n ∈ s, n.path.size ≤ 1048576 ∧ n.pre.size ≤ 1048576) := fun n hn => by have := hs2 n hn; omega
  have HSG : Hid (∀ n ∈ s, n.path.size ≤ 1000000000000 ∧ n.pre.size ≤ 1000000000000) := fun n hn => by have := hs2 n hn; omega
  clear hs2
  have hv1 := reach_len l s
  obtain ⟨L, hL⟩ : ∃ L, (reach16 l s).1 = L := ⟨_, rfl⟩
  obtain ⟨c, hc⟩ : ∃ c, (reach16 l s).2 = c := ⟨_, rfl⟩
  rw [hL] at hv1
  have c1 : (c != c) = false := by simp
  have HL : Hid (reach16 l s = (L, c)) := by show _ = _; rw [← hL, ← hc]
  clear hL hc
  go_wp2_with fail
  refine (to_entries W2 v l (Se.later HS.out B2.out) (by omega) (fun x hx => by have := HN.out x hx; omega)).mono ?_
  rintro e W3 ⟨x1, Tx1, rfl, ox1, ax1, b3⟩
  have z3 := b3.size
  have B3 : Hid (Below w.heap.size w W3) := B2.out.trans (b3.mono B2.out.size)
  clear b3 B2
  have Ex1_3 : Hid (Oes W3 W2.heap.size W3.heap.size x1 Tx1) := ox1
  have Ax1 : Hid (Alk l Tx1) := ax1
  have Lx1 : Tx1.length = l.length := ax1.len
  have Gx1 : tot15 Tx1 = tot15 l := tot15_alk ax1
  clear ox1 ax1
  go_wp2_with fail
  refine (to_needs W3 v1 s (Sd.later HD.out B3.out) (by omega)).mono ?_
  rintro e W4 ⟨u1, rfl, ou1, b4⟩
  have z4 := b4.size
  have B4 : Hid (Below w.heap.size w W4) := B3.out.trans (b4.mono B3.out.size)
  have Ex1_4 : Hid (Oes W4 W2.heap.size W3.heap.size x1 Tx1) := Oes.later Ex1_3.out b4 (by omega)
  clear b4 Ex1_3 B3
  have Du1_4 : Hid (Od W4 W3.heap.size W4.heap.size u1 s) := ou1
  clear ou1
  have qg1 := reach_spec W4 x1 u1 Tx1 s Ex1_4.out.se Du1_4.out.sd (by omega) (by omega) (Fit2.reach (Fit2.alk HF.out Ax1.out)) HSG.out
  simp only [alk_reach Ax1.out s, HL.out] at qg1
  go_wp2_with fail
  refine (qg1).mono ?_
  rintro e W5 ⟨g1, rfl, og1, b5⟩
  have z5 := b5.size
  have B5 : Hid (Below w.heap.size w W5) := B4.out.trans (b5.mono B4.out.size)
  have Ex1_5 : Hid (Oes W5 W2.heap.size W3.heap.size x1 Tx1) := Oes.later Ex1_4.out b5 (by omega)
  have Du1_5 : Hid (Od W5 W3.heap.size W4.heap.size u1 s) := Od.later Du1_4.out b5 (by omega)
  clear b5 Ex1_4 Du1_4 B4
  have Vg1_5 : Hid (Od W5 W4.heap.size W5.heap.size g1 L) := og1
  clear og1 qg1
  clear Ex1_5
  clear Du1_5
  go_wp2_with fail
  refine (to_entries W5 v l (Se.later HS.out B5.out) (by omega) (fun x hx => by have := HN.out x hx; omega)).mono ?_
  rintro e W6 ⟨x2, Tx2, rfl, ox2, ax2, b6⟩
  have z6 := b6.size
  have B6 : Hid (Below w.heap.size w W6) := B5.out.trans (b6.mono B5.out.size)
  have Vg1_6 : Hid (Od W6 W4.heap.size W5.heap.size g1 L) := Od.later Vg1_5.out b6 (by omega)
  clear b6 Vg1_5 B5
  have Ex2_6 : Hid (Oes W6 W5.heap.size W6.heap.size x2 Tx2) := ox2
  have Ax2 : Hid (Alk l Tx2) := ax2
  have Lx2 : Tx2.length = l.length := ax2.len
  have Gx2 : tot15 Tx2 = tot15 l := tot15_alk ax2
  clear ox2 ax2
  go_wp2_with fail
  refine (to_needs W6 v1 s (Sd.later HD.out B6.out) (by omega)).mono ?_
  rintro e W7 ⟨u2, rfl, ou2, b7⟩
  have z7 := b7.size
  have B7 : Hid (Below w.heap.size w W7) := B6.out.trans (b7.mono B6.out.size)
  have Vg1_7 : Hid (Od W7 W4.heap.size W5.heap.size g1 L) := Od.later Vg1_6.out b7 (by omega)
  have Ex2_7 : Hid (Oes W7 W5.heap.size W6.heap.size x2 Tx2) := Oes.later Ex2_6.out b7 (by omega)
  clear b7 Vg1_6 Ex2_6 B6
  have Du2_7 : Hid (Od W7 W6.heap.size W7.heap.size u2 s) := ou2
  clear ou2
  have qg2 := iR W7 x2 u2 Tx2 B7.out Ex2_7.out.se Du2_7.out.sd (by omega) (Fit2.alk HF.out Ax2.out) (by omega) HSF.out
  simp only [alk_reach Ax2.out s, HL.out] at qg2
  go_wp2_with fail
  refine (qg2).mono ?_
  rintro e W8 ⟨g2, rfl, og2, b8⟩
  have z8 := b8.size
  have B8 : Hid (Below w.heap.size w W8) := B7.out.trans (b8.mono B7.out.size)
  have Vg1_8 : Hid (Od W8 W4.heap.size W5.heap.size g1 L) := Od.later Vg1_7.out b8 (by omega)
  have Ex2_8 : Hid (Oes W8 W5.heap.size W6.heap.size x2 Tx2) := Oes.later Ex2_7.out b8 (by omega)
  have Du2_8 : Hid (Od W8 W6.heap.size W7.heap.size u2 s) := Od.later Du2_7.out b8 (by omega)
  clear b8 Vg1_7 Ex2_7 Du2_7 B7
  have Vg2_8 : Hid (Od W8 W7.heap.size W8.heap.size g2 L) := og2
  clear og2 qg2
  go_wp2_with fail
  refine (eq_needs W8 g2 g1 _ Vg2_8.out.sd Vg1_8.out.sd (by omega)).mono ?_
  rintro e W9 ⟨rfl, b9⟩
  have z9 := b9.size
  have B9 : Hid (Below w.heap.size w W9) := B8.out.trans (b9.mono B8.out.size)
  have Vg1_9 : Hid (Od W9 W4.heap.size W5.heap.size g1 L) := Od.later Vg1_8.out b9 (by omega)
  have Ex2_9 : Hid (Oes W9 W5.heap.size W6.heap.size x2 Tx2) := Oes.later Ex2_8.out b9 (by omega)
  have Du2_9 : Hid (Od W9 W6.heap.size W7.heap.size u2 s) := Od.later Du2_8.out b9 (by omega)
  have Vg2_9 : Hid (Od W9 W7.heap.size W8.heap.size g2 L) := Od.later Vg2_8.out b9 (by omega)
  clear b9 Vg1_8 Ex2_8 Du2_8 Vg2_8 B8
  go_wp2_with fail
  refine (to_entries W9 v l (Se.later HS.out B9.out) (by omega) (fun x hx => by have := HN.out x hx; omega)).mono ?_
  rintro e W10 ⟨x3, Tx3, rfl, ox3, ax3, b10⟩
  have z10 := b10.size
  have B10 : Hid (Below w.heap.size w W10) := B9.out.trans (b10.mono B9.out.size)
  have Vg1_10 : Hid (Od W10 W4.heap.size W5.heap.size g1 L) := Od.later Vg1_9.out b10 (by omega)
  have Ex2_10 : Hid (Oes W10 W5.heap.size W6.heap.size x2 Tx2) := Oes.later Ex2_9.out b10 (by omega)
  have Du2_10 : Hid (Od W10 W6.heap.size W7.heap.size u2 s) := Od.later Du2_9.out b10 (by omega)
  have Vg2_10 : Hid (Od W10 W7.heap.size W8.heap.size g2 L) := Od.later Vg2_9.out b10 (by omega)
  clear b10 Vg1_9 Ex2_9 Du2_9 Vg2_9 B9
  have Ex3_10 : Hid (Oes W10 W9.heap.size W10.heap.size x3 Tx3) := ox3
  have Ax3 : Hid (Alk l Tx3) := ax3
  have Lx3 : Tx3.length = l.length := ax3.len
  have Gx3 : tot15 Tx3 = tot15 l := tot15_alk ax3
  clear ox3 ax3
  go_wp2_with fail
  refine (eq_entries W10 x2 x3 Tx2 Tx3 Ex2_10.out.se Ex3_10.out.se (Alk.trans Ax2.out.symm Ax3.out) (by omega) (Alk.all (p := fun _ s => s.length ≤ 1000000000000) Ax2.out (fun x hx => by have := HN.out x hx; omega))).mono ?_
  rintro e W11 ⟨rfl, b11⟩
  have z11 := b11.size
  have B11 : Hid (Below w.heap.size w W11) := B10.out.trans (b11.mono B10.out.size)
  have Vg1_11 : Hid (Od W11 W4.heap.size W5.heap.size g1 L) := Od.later Vg1_10.out b11 (by omega)
  have Ex2_11 : Hid (Oes W11 W5.heap.size W6.heap.size x2 Tx2) := Oes.later Ex2_10.out b11 (by omega)
  have Du2_11 : Hid (Od W11 W6.heap.size W7.heap.size u2 s) := Od.later Du2_10.out b11 (by omega)
  have Vg2_11 : Hid (Od W11 W7.heap.size W8.heap.size g2 L) := Od.later Vg2_10.out b11 (by omega)
  have Ex3_11 : Hid (Oes W11 W9.heap.size W10.heap.size x3 Tx3) := Oes.later Ex3_10.out b11 (by omega)
  clear b11 Vg1_10 Ex2_10 Du2_10 Vg2_10 Ex3_10 B10
  clear Ex3_11
  go_wp2_with fail
  refine (to_needs W11 v1 s (Sd.later HD.out B11.out) (by omega)).mono ?_
  rintro e W12 ⟨u3, rfl, ou3, b12⟩
  have z12 := b12.size
  have B12 : Hid (Below w.heap.size w W12) := B11.out.trans (b12.mono B11.out.size)
  have Vg1_12 : Hid (Od W12 W4.heap.size W5.heap.size g1 L) := Od.later Vg1_11.out b12 (by omega)
  have Ex2_12 : Hid (Oes W12 W5.heap.size W6.heap.size x2 Tx2) := Oes.later Ex2_11.out b12 (by omega)
  have Du2_12 : Hid (Od W12 W6.heap.size W7.heap.size u2 s) := Od.later Du2_11.out b12 (by omega)
  have Vg2_12 : Hid (Od W12 W7.heap.size W8.heap.size g2 L) := Od.later Vg2_11.out b12 (by omega)
  clear b12 Vg1_11 Ex2_11 Du2_11 Vg2_11 B11
  have Du3_12 : Hid (Od W12 W11.heap.size W12.heap.size u3 s) := ou3
  clear ou3
  go_wp2_with fail
  refine (eq_needs W12 u2 u3 s Du2_12.out.sd Du3_12.out.sd (by omega)).mono ?_
  rintro e W13 ⟨rfl, b13⟩
  have z13 := b13.size
  have B13 : Hid (Below w.heap.size w W13) := B12.out.trans (b13.mono B12.out.size)
  have Vg1_13 : Hid (Od W13 W4.heap.size W5.heap.size g1 L) := Od.later Vg1_12.out b13 (by omega)
  have Ex2_13 : Hid (Oes W13 W5.heap.size W6.heap.size x2 Tx2) := Oes.later Ex2_12.out b13 (by omega)
  have Du2_13 : Hid (Od W13 W6.heap.size W7.heap.size u2 s) := Od.later Du2_12.out b13 (by omega)
  have Vg2_13 : Hid (Od W13 W7.heap.size W8.heap.size g2 L) := Od.later Vg2_12.out b13 (by omega)
  have Du3_13 : Hid (Od W13 W11.heap.size W12.heap.size u3 s) := Od.later Du3_12.out b13 (by omega)
  clear b13 Vg1_12 Ex2_12 Du2_12 Vg2_12 Du3_12 B12
  clear Du3_13
  go_wp2_with fail
  refine (mark_entries W13 x2 _ _ Tx2 1 Ex2_13.out (by omega) (by omega) (by omega) (by omega)).mono ?_
  rintro e W14 ⟨rfl, b14⟩
  have z14 := b14.size
  have B14 : Hid (Below w.heap.size w W14) := B13.out.trans (b14.below (by omega) (B13.out.size))
  have Vg1_14 : Hid (Od W14 W4.heap.size W5.heap.size g1 L) := Od.apart Vg1_13.out b14 (by omega) (by omega)
  have Du2_14 : Hid (Od W14 W6.heap.size W7.heap.size u2 s) := Od.apart Du2_13.out b14 (by omega) (by omega)
  have Vg2_14 : Hid (Od W14 W7.heap.size W8.heap.size g2 L) := Od.apart Vg2_13.out b14 (by omega) (by omega)
  clear b14 Vg1_13 Ex2_13 Du2_13 Vg2_13 B13
  obtain ⟨m, hm9⟩ : ∃ m : Nat, 1 + 5 * tot15 Tx2 = m := ⟨_, rfl⟩
  rw [hm9]
  have hm1 : 1 ≤ m := by omega
  have hm3 : m ≤ 10000000 := by omega
  clear hm9
  go_wp2_with fail
  refine (mark_needs W14 u2 _ _ s m Du2_14.out (by omega) (by omega) (by omega) (by omega)).mono ?_
  rintro e W15 ⟨rfl, ou, b15⟩
  have z15 := b15.size
  have B15 : Hid (Below w.heap.size w W15) := B14.out.trans (b15.below (by omega) (B14.out.size))
  have Vg1_15 : Hid (Od W15 W4.heap.size W5.heap.size g1 L) := Od.apart Vg1_14.out b15 (by omega) (by omega)
  have Vg2_15 : Hid (Od W15 W7.heap.size W8.heap.size g2 L) := Od.apart Vg2_14.out b15 (by omega) (by omega)
  clear b15 Vg1_14 Du2_14 Vg2_14 B14
  obtain ⟨M, hM, hM0⟩ : ∃ M : Int, ((m + 5 * s.length : Nat) : Int) = M ∧ ¬ M < 0 := ⟨_, rfl, by omega⟩
  rw [hM]
  clear hM ou
  go_wp2_with fail
  refine (eq_needs W15 g2 g1 _ Vg2_15.out.sd Vg1_15.out.sd (by omega)).mono ?_
  rintro e W16 ⟨rfl, b16⟩
  have z16 := b16.size
  have B16 : Hid (Below w.heap.size w W16) := B15.out.trans (b16.mono B15.out.size)
  have Vg1_16 : Hid (Od W16 W4.heap.size W5.heap.size g1 L) := Od.later Vg1_15.out b16 (by omega)
  have Vg2_16 : Hid (Od W16 W7.heap.size W8.heap.size g2 L) := Od.later Vg2_15.out b16 (by omega)
  clear b16 Vg1_15 Vg2_15 B15
  obtain ⟨C, hC⟩ : ∃ C, L.length = C := ⟨_, rfl⟩
  obtain ⟨N, hN, hN0⟩ : ∃ N : Int, ((1 + 5 * C : Nat) : Int) = N ∧ ¬ N < 0 := ⟨_, rfl, by omega⟩
  have n1 : (N != N) = false := by simp
  have q8 := mark_needs W16 g2 _ _ _ 1 Vg2_16.out (by omega) (by omega) (by omega) (by omega)
  rw [hC, hN] at q8
  have HN2 : Hid (((1 + 5 * C : Nat) : Int) = N) := hN
  clear hN
  go_wp2_with fail
  refine (q8).mono ?_
  rintro e W17 ⟨rfl, om, b17⟩
  have z17 := b17.size
  have B17 : Hid (Below w.heap.size w W17) := B16.out.trans (b17.below (by omega) (B16.out.size))
  have Vg1_17 : Hid (Od W17 W4.heap.size W5.heap.size g1 L) := Od.apart Vg1_16.out b17 (by omega) (by omega)
  clear b17 Vg1_16 Vg2_16 B16
  have Vm_17 : Hid (Od W17 W7.heap.size W8.heap.size g2 (mds 1 C)) := om
  clear om q8
  have q9 := held_needs W17 g2 C 1 Vm_17.out.sd (by omega) (by omega) (by omega)
  rw [HN2.out] at q9
  go_wp2_with fail
  refine (q9).mono ?_
  rintro e W18 ⟨rfl, b18⟩
  have z18 := b18.size
  have B18 : Hid (Below w.heap.size w W18) := B17.out.trans (b18.mono B17.out.size)
  have Vg1_18 : Hid (Od W18 W4.heap.size W5.heap.size g1 L) := Od.later Vg1_17.out b18 (by omega)
  have Vm_18 : Hid (Od W18 W7.heap.size W8.heap.size g2 (mds 1 C)) := Od.later Vm_17.out b18 (by omega)
  clear b18 Vg1_17 Vm_17 B17
  clear q9
  go_wp2_with fail
  refine (to_entries W18 v l (Se.later HS.out B18.out) (by omega) (fun x hx => by have := HN.out x hx; omega)).mono ?_
  rintro e W19 ⟨x4, Tx4, rfl, ox4, ax4, b19⟩
  have z19 := b19.size
  have B19 : Hid (Below w.heap.size w W19) := B18.out.trans (b19.mono B18.out.size)
  have Vg1_19 : Hid (Od W19 W4.heap.size W5.heap.size g1 L) := Od.later Vg1_18.out b19 (by omega)
  have Vm_19 : Hid (Od W19 W7.heap.size W8.heap.size g2 (mds 1 C)) := Od.later Vm_18.out b19 (by omega)
  clear b19 Vg1_18 Vm_18 B18
  have Ex4_19 : Hid (Oes W19 W18.heap.size W19.heap.size x4 Tx4) := ox4
  have Ax4 : Hid (Alk l Tx4) := ax4
  have Lx4 : Tx4.length = l.length := ax4.len
  have Gx4 : tot15 Tx4 = tot15 l := tot15_alk ax4
  clear ox4 ax4
  go_wp2_with fail
  refine (to_needs W19 v1 s (Sd.later HD.out B19.out) (by omega)).mono ?_
  rintro e W20 ⟨u4, rfl, ou4, b20⟩
  have z20 := b20.size
  have B20 : Hid (Below w.heap.size w W20) := B19.out.trans (b20.mono B19.out.size)
  have Vg1_20 : Hid (Od W20 W4.heap.size W5.heap.size g1 L) := Od.later Vg1_19.out b20 (by omega)
  have Vm_20 : Hid (Od W20 W7.heap.size W8.heap.size g2 (mds 1 C)) := Od.later Vm_19.out b20 (by omega)
  have Ex4_20 : Hid (Oes W20 W18.heap.size W19.heap.size x4 Tx4) := Oes.later Ex4_19.out b20 (by omega)
  clear b20 Vg1_19 Vm_19 Ex4_19 B19
  have Du4_20 : Hid (Od W20 W19.heap.size W20.heap.size u4 s) := ou4
  clear ou4
  have qg3 := iR W20 x4 u4 Tx4 B20.out Ex4_20.out.se Du4_20.out.sd (by omega) (Fit2.alk HF.out Ax4.out) (by omega) HSF.out
  simp only [alk_reach Ax4.out s, HL.out] at qg3
  go_wp2_with fail
  refine (qg3).mono ?_
  rintro e W21 ⟨g3, rfl, og3, b21⟩
  have z21 := b21.size
  have B21 : Hid (Below w.heap.size w W21) := B20.out.trans (b21.mono B20.out.size)
  have Vg1_21 : Hid (Od W21 W4.heap.size W5.heap.size g1 L) := Od.later Vg1_20.out b21 (by omega)
  have Vm_21 : Hid (Od W21 W7.heap.size W8.heap.size g2 (mds 1 C)) := Od.later Vm_20.out b21 (by omega)
  have Ex4_21 : Hid (Oes W21 W18.heap.size W19.heap.size x4 Tx4) := Oes.later Ex4_20.out b21 (by omega)
  have Du4_21 : Hid (Od W21 W19.heap.size W20.heap.size u4 s) := Od.later Du4_20.out b21 (by omega)
  clear b21 Vg1_20 Vm_20 Ex4_20 Du4_20 B20
  have Vg3_21 : Hid (Od W21 W20.heap.size W21.heap.size g3 L) := og3
  clear og3 qg3
  clear Ex4_21
  clear Du4_21
  go_wp2_with fail
  refine (eq_needs W21 g3 g1 _ Vg3_21.out.sd Vg1_21.out.sd (by omega)).mono ?_
  rintro e W22 ⟨rfl, b22⟩
  have z22 := b22.size
  have B22 : Hid (Below w.heap.size w W22) := B21.out.trans (b22.mono B21.out.size)
  have Vg1_22 : Hid (Od W22 W4.heap.size W5.heap.size g1 L) := Od.later Vg1_21.out b22 (by omega)
  have Vm_22 : Hid (Od W22 W7.heap.size W8.heap.size g2 (mds 1 C)) := Od.later Vm_21.out b22 (by omega)
  have Vg3_22 : Hid (Od W22 W20.heap.size W21.heap.size g3 L) := Od.later Vg3_21.out b22 (by omega)
  clear b22 Vg1_21 Vm_21 Vg3_21 B21
  have q10 := held_needs W22 g2 C 1 Vm_22.out.sd (by omega) (by omega) (by omega)
  rw [HN2.out] at q10
  go_wp2_with fail
  refine (q10).mono ?_
  rintro e W23 ⟨rfl, b23⟩
  have z23 := b23.size
  have B23 : Hid (Below w.heap.size w W23) := B22.out.trans (b23.mono B22.out.size)
  have Vg1_23 : Hid (Od W23 W4.heap.size W5.heap.size g1 L) := Od.later Vg1_22.out b23 (by omega)
  have Vm_23 : Hid (Od W23 W7.heap.size W8.heap.size g2 (mds 1 C)) := Od.later Vm_22.out b23 (by omega)
  have Vg3_23 : Hid (Od W23 W20.heap.size W21.heap.size g3 L) := Od.later Vg3_22.out b23 (by omega)
  clear b23 Vg1_22 Vm_22 Vg3_22 B22
  clear q10
  go_wp2
  go_ret
  exact ⟨rfl, B23.out⟩

end Go.Proofs.YtlhmemnaiobgkaaGreatDoor.Se
