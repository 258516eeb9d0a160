/- Texts in one: Re3. -/
import Derived.Test.YtlhmemnaiobgkaaGreatDoorPq35
import Derived.Test.YtlhmemnaiobgkaaGreatDoorPq26
import Derived.Test.YtlhmemnaiobgkaaGreatDoorPq43
import Derived.Test.YtlhmemnaiobgkaaGreatDoorPq34
import Derived.Test.YtlhmemnaiobgkaaGreatDoorPq45
/- Chapter 16: FnLeast over the landed functions. -/
namespace Go.Proofs.YtlhmemnaiobgkaaGreatDoor.Se
open Go.RowKit Go.Proofs.YtlhmemnaiobgkaaGreatDoor.Mem Go.Proofs.YtlhmemnaiobgkaaGreatDoor.Laws Go.Proofs.YtlhmemnaiobgkaaGreatDoor.Bytes Go.Proofs.YtlhmemnaiobgkaaGreatDoor.Ver Go.Proofs.YtlhmemnaiobgkaaGreatDoor.Ent Go.Proofs.YtlhmemnaiobgkaaGreatDoor.Fe Go.Proofs.YtlhmemnaiobgkaaGreatDoor.Draw
set_option linter.unusedVariables false
set_option linter.unusedSimpArgs false

theorem lin_dp3 : Lin Dp where
  irr := fun hx => lin_pre.irr hx.2.1
  tr := fun hx hy hz => lin_pre.tr hx.2.1 hy.2.1 hz.2.1
  tot := fun hx hy => lin_pre.tot hx.2.1 hy.2.1
theorem vers15_fl (p : ByteArray) (l : List Nd) : vers15 p l = fl p l := rfl
theorem lat4_max {row : List Nd} {q : Nd} (hD : ∀ x ∈ row, Dp x) (hq : q ∈ row) : lessQ (lat4 (vers q.path row)) (ver4 q) = false ∧ (lat4 (vers q.path row)).2.2.2.size ≤ 100 := by
  have hok : ∀ x ∈ row, okN x := fun x hx => (hD x hx).2.2
  obtain ⟨y, hy, h1, h2⟩ := (sel_sel lin_dp3 row hD).cov q hq
  have hyr := (sel_sel lin_dp3 row hD).sub y hy
  have hb := ((sel_bst row).2 y).1 hy
  rw [h1, bst_vers q.path hok] at hb
  have hne : vers q.path row ≠ [] := vers_some.2 (List.mem_map.2 ⟨q, hq, rfl⟩)
  rw [if_neg hne] at hb
  simp only [Option.some.injEq] at hb
  have e : ver4 y = lat4 (vers q.path row) := by rw [← hb]; rfl
  rw [← e, less_lv (hok y hyr) (hok q hq)]
  exact ⟨h2, by have := (hD y hyr).size; show y.pre.size ≤ 100; omega⟩
/-- the latest of a path's versions, and that it is no less -/
theorem least_at {W : World} {lo hi : Nat} {v : Value} {row : List Nd} {q : Nd} (hl : row.length ≤ 100) (hD : ∀ x ∈ row, Dp x) (hq : q ∈ row) (ho : Ow W lo hi v (fl q.path row)) :
    ∃ (gv cpv nv : Nat) (LV : Q4), v = .slice (some ⟨gv, 0, none⟩) nv cpv ∧ (∀ W', Below W.heap.size W W' → Calls Tryz.prog 23 #[.slice (some ⟨gv, 0, none⟩) nv cpv] W' (fun e w' => e = .returned (.agg #[.int .i64 LV.1, .int .i64 LV.2.1, .int .i64 LV.2.2.1, .string LV.2.2.2]) ∧ Below W'.heap.size W' w')) ∧
      ∀ W', Calls Tryz.prog 22 #[.agg #[.int .i64 LV.1, .int .i64 LV.2.1, .int .i64 LV.2.2.1, .string LV.2.2.2], .agg #[.int .i64 q.a, .int .i64 q.b, .int .i64 q.c, .string q.pre]] W' (fun e w' => e = .returned (.bool false) ∧ Below W'.heap.size W' w') := by
  have hpm : q.path ∈ row.map Nd.path := List.mem_map.2 ⟨q, hq, rfl⟩
  obtain ⟨gv, cpv, rfl, hcv0, hCv⟩ := Ow.cv ho (fl_some hpm)
  have hne := vers_some.2 hpm
  have hvl9 : (vers q.path row).length = (fl q.path row).length := by rw [vers_fl, List.length_map]
  have hvz : ∀ x ∈ vers q.path row, x.2.2.2.size ≤ 100 := by
    intro x hx
    obtain ⟨n, hn, rfl⟩ := List.mem_map.1 (show x ∈ (fl q.path row).map ver4 from hx)
    have := (hD n (fl_sub hn)).size
    show n.pre.size ≤ 100
    omega
  have hcv : Cv W gv (vers q.path row) := hCv
  have hfl := fl_len q.path row
  obtain ⟨hmx, hms⟩ := lat4_max hD hq
  cases hq9 : vers q.path row with
  | nil => exact absurd hq9 hne
  | cons qv lv9 =>
    rw [hq9] at hvl9 hvz hcv hmx hms
    rw [List.length_cons] at hvl9
    refine ⟨gv, cpv, _, latF qv lv9, rfl, fun W' hW' => ?_, fun W' => ?_⟩
    · have qL := lat_impl W' gv cpv qv lv9 (hcv.later hW') (by omega) (by omega) hvz
      rw [hvl9] at qL
      exact qL
    · have hqs := (hD q hq).size
      have q2 := less_impl W' (latF qv lv9).1 (latF qv lv9).2.1 (latF qv lv9).2.2.1 (latF qv lv9).2.2.2 q.a q.b q.c q.pre (by have : (latF qv lv9).2.2.2.size ≤ 100 := hms; omega) (by omega)
      have e : decide (cmpV (latF qv lv9).1 (latF qv lv9).2.1 (latF qv lv9).2.2.1 (latF qv lv9).2.2.2 q.a q.b q.c q.pre < 0) = false := hmx
      rw [e] at q2
      exact q2
theorem Dy.fit9 {T : List Ev} (h : ∀ x ∈ T, Dy x) : ∀ x ∈ T, Fit9 x := fun x hx => by
  obtain ⟨h1, h2, h3⟩ := h x hx
  have := Dn.size h1
  exact ⟨by omega, by omega, by omega, fun n hn => by have := Dn.size (h3 n hn); omega⟩
theorem names_dp {T : List Ev} (h : ∀ x ∈ T, Dy x) : ∀ n ∈ T.map Ev.n, Dp n := fun n hn => by
  obtain ⟨x, hx, rfl⟩ := List.mem_map.1 hn
  exact Dn.dp (h x hx).1
theorem Rch.name {T : List Ev} {s R : List Nd} (h : Rch T s R) {q : Nd} (hq : q ∈ R) : q ∈ T.map Ev.n := by
  obtain ⟨e, h1, _, _⟩ := h.has q hq
  obtain ⟨h2, h3⟩ := find_name h1
  exact List.mem_map.2 ⟨e, h3, h2⟩
/-- what was selected may be selected of -/
theorem Rch.needs {T : List Ev} {s R S : List Nd} (h : Rch T s R) (hs : Sel R S) (hT : T.length ≤ 8) : needs5 S = true := by
  unfold needs5
  have h1 : S.length ≤ ((T.map Ev.n).map Nd.path).length := up_len hs.up (fun x hx => List.mem_map_of_mem (h.name (hs.sub x hx)))
  simp only [List.length_map] at h1
  rw [up_rise S hs.up (fun x hx => Hs.ok (h.has x (hs.sub x hx)))]
  simp
  omega

set_option maxRecDepth 1000000 in
set_option maxHeartbeats 3000000 in
theorem least_law (w : World) (hE : As.Hand w) (vb : Value) (xs : List Int) (hs : Sl w vb (bs xs)) (hby : Byt xs) (hx : xs.length ≤ maxLen) :
    Calls Tryz.prog 5 #[vb] w fun e w' => e = .returned (.bool true) ∧ Below w.heap.size w w' := by
  have HSL : Hid (Sl w vb (bs xs)) := hs
  have HE : Hid (As.Hand w) := hE
  unfold maxLen at hx
  obtain ⟨ao0, cap0, rfl, hc0⟩ := hs.form
  rw [bs_len] at *
  clear hs hE
  by_cases hbig : 1048576 < xs.length
  · go_enter Tryz.func5, Tryz.ntmps5
    go_wp2_with (go_at_call 7; refine (big_yes _ _ _ _ hbig).mono ?_; rintro e w1 ⟨rfl, rfl⟩)
    go_ret
    exact ⟨rfl, Below.refl _ _⟩
  have qd := drawWants2_any w _ xs HSL.out hby (by omega)
  go_enter Tryz.func5, Tryz.ntmps5
  go_wp2_with fail
  refine (big_no _ _ _ _ hbig).mono ?_
  rintro e w_ ⟨rfl, hw_⟩
  subst hw_
  go_wp2_with fail
  refine qd.mono ?_
  rintro e W1 ⟨v1, v2, T, s, rfl, hT1, hT8, hTw, hs1, hs3, hsp, hse, hsd, b1⟩
  have HT := Ke.h hTw
  have HP := Ke.h hsp
  have HSE : Hid (Se W1 v1 T) := hse
  have HSD : Hid (Sd W1 v2 s) := hsd
  have B1 : Hid (Below w.heap.size w W1) := b1
  obtain ⟨ao1, cap1, rfl, hcap1⟩ := hse.form
  obtain ⟨_, ao2, cap2, rfl, hcap2, _, _⟩ := hsd
  clear hTw hsp hse b1 qd
  have HF := Ke.h (Dy.fit9 HT.out)
  have hpz : ∀ x ∈ s, x.path.size ≤ 1000000000000 ∧ x.pre.size ≤ 1000000000000 := fun x hx => by have := Dn.size (HP.out x hx); omega
  have HPZ := Ke.h hpz
  clear hpz
  have q1 := select_impl W1 (As.Hand.later HE.out B1.out) _ _ T s HSE.out HSD.out (by omega) HF.out (by omega) HPZ.out
  unfold SlP at q1
  obtain ⟨hR60, hRD⟩ := reach_size (l := T) (s := s) (D := Dp) (fun n hn => Dn.dp (HP.out n hn)) (fun e he n hn => Dn.dp ((HT.out e he).2.2 n hn))
  obtain ⟨R, hR⟩ : ∃ R, (reach16 T s).1 = R := ⟨_, rfl⟩
  obtain ⟨c, hc⟩ : ∃ c, (reach16 T s).2 = c := ⟨_, rfl⟩
  obtain ⟨S, hS⟩ : ∃ S, sel16 R = S := ⟨_, rfl⟩
  have hsel : select16 T s = (S, c) := by unfold select16; rw [hR, hc, hS]
  rw [hsel] at q1
  rw [hR] at hR60 hRD
  have HRD := Ke.h hRD
  have HSS : Hid (Sel R S) := by show Sel _ _; rw [← hS]; exact sel_sel lin_dp3 R HRD.out
  have hS60 : S.length ≤ 60 := by have h9 := sel_len R; rw [hS] at h9; omega
  have HRC : Hid (c = 0 → Rch T s R) := fun h9 => by rw [← hR]; exact reach_rch (hc.trans h9)
  have HSL2 := Ke.h hsel
  have HSR := Ke.h hS
  clear hR hc hRD hS hsel
  go_wp2_with fail
  refine q1.mono ?_
  rintro e W2 ⟨v3, rfl, o3, b2⟩
  clear q1
  have D2 : Hid (Below W1.heap.size W1 W2) := b2
  have HSE2 := Ke.h (HSE.out.later D2.out)
  have HSD2 := Ke.h (HSD.out.later D2.out)
  have B2 : Hid (Below w.heap.size w W2) := B1.out.trans (D2.out.mono B1.out.size)
  obtain ⟨a3, c3, rfl⟩ := Od.slice o3
  have HO2 : Hid (Sd W2 (.slice a3 S.length c3) S) := o3.sd
  clear b2 o3 HSE HSD B1 D2
  have eqc : (c == c) = true := by simp
  by_cases hc0 : c = 0
  · subst hc0
    have HR := Ke.h (HRC.out rfl)
    go_wp2_with fail
    go_loopw [9] (fun iv wr => ∃ k : Nat, k ≤ S.length ∧ iv = .int .i64 (k : Int) ∧ Hid (Below W2.heap.size W2 wr)) (fun iv _ => S.length - (intOf iv).toNat)
    case atStart => exact ⟨0, Nat.zero_le _, rfl, Below.refl _ _⟩
    case round =>
      obtain ⟨k, hk, rfl, D5⟩ := hrel
      obtain ⟨W5, hW5⟩ : ∃ X, X = wr := ⟨_, rfl⟩
      subst hW5
      have B5 : Hid (Below w.heap.size w W5) := B2.out.trans (D5.out.mono B2.out.size)
      by_cases hlt : k < S.length
      · have hlt2 : (k : Int) < (S.length : Int) := by omega
        obtain ⟨q, hq⟩ : ∃ q, S[k]? = some q := ⟨S[k], by simp [hlt]⟩
        have hqm := HR.out.name (HSS.out.sub q (List.mem_of_getElem? hq))
        obtain ⟨b, off, cap9, he, _, m0, m1, m2, m3, m4⟩ := Sd.at (HO2.out.later D5.out) hq
        simp only [Value.slice.injEq] at he
        obtain ⟨rfl, _, rfl⟩ := he
        have HQM := Ke.h hqm
        clear hq hqm
        have qv := versions_impl W5 (.slice ao1 T.length cap1) T q.path (HSE2.out.later D5.out) (by omega) HF.out
        rw [vers15_fl] at qv
        go_wp2_with fail
        refine qv.mono ?_
        rintro e W6 ⟨v6, rfl, o6, b6⟩
        clear qv
        have D6 := Ke.b D5 b6
        have m0 := keepR m0 b6
        have m1 := keepR m1 b6
        have m2 := keepR m2 b6
        have m3 := keepR m3 b6
        have m4 := keepR m4 b6
        obtain ⟨gv, cpv, nv, LV, rfl, qL, qZ⟩ := least_at (by rw [List.length_map]; omega) (names_dp HT.out) HQM.out o6
        clear o6 b6
        go_upto_region 12 with fail
        refine wp_region_held_drew (S := fun w' => w'.cell? ⟨b, off + k * 5, none⟩ = some (.string q.path) ∧ w'.cell? ⟨b, off + k * 5 + 1, none⟩ = some (.int .i64 q.a) ∧ w'.cell? ⟨b, off + k * 5 + 2, none⟩ = some (.int .i64 q.b) ∧ w'.cell? ⟨b, off + k * 5 + 3, none⟩ = some (.int .i64 q.c) ∧ w'.cell? ⟨b, off + k * 5 + 4, none⟩ = some (.string q.pre)) (by kernel_rfl) ⟨m0, m1, m2, m3, m4⟩ (fun hHeld => ?_)
        obtain ⟨Wd, HWd, bd⟩ : ∃ X, Hid (W6.drew = X) ∧ Below W6.heap.size W6 X := ⟨_, rfl, Below.drew (Below.refl _ _)⟩
        have HHWd := HWd.out
        rw [HHWd] at hHeld ⊢
        clear HHWd
        refine Ke.y 0 rfl (fun _ _ _ h => h) ?_
        try simp only [Act.put, pu1, pu2, pu3, pu4, pu5, pu6]
        refine Ke.y 2 rfl (fun _ _ _ h => h) ?_
        try simp only [Act.put, pu1, pu2, pu3, pu4, pu5, pu6]
        refine Ke.y 3 rfl (fun _ _ _ h => h) ?_
        try simp only [Act.put, pu1, pu2, pu3, pu4, pu5, pu6]
        refine Ke.y 4 rfl (fun _ _ _ h => h) ?_
        try simp only [Act.put, pu1, pu2, pu3, pu4, pu5, pu6]
        refine Ke.y 5 rfl (fun _ _ _ h => h) ?_
        try simp only [Act.put, pu1, pu2, pu3, pu4, pu5, pu6]
        refine Ke.y 6 rfl (fun _ _ _ h => h) ?_
        try simp only [Act.put, pu1, pu2, pu3, pu4, pu5, pu6]
        refine Ke.z 1 rfl (fun K hK => ?_)
        go_simp
        refine (qL Wd bd).mono ?_
        rintro e W7 ⟨rfl, b7⟩
        refine hK.out _ _ (S5.keep (b := b) (o := off + k * 5) (x := q) hHeld b7) (fun hHeld => ?_)
        clear hK K
        try simp only [Act.put, pu1, pu2, pu3, pu4, pu5, pu6]
        skip
        refine Ke.z 7 rfl (fun K hK => ?_)
        go_simp
        refine (qZ W7).mono ?_
        rintro e W8 ⟨rfl, b8⟩
        refine hK.out _ _ (S5.keep (b := b) (o := off + k * 5) (x := q) hHeld b8) (fun hHeld => ?_)
        clear hK K
        try simp only [Act.put, pu1, pu2, pu3, pu4, pu5, pu6]
        refine wpAnyH_done (by kernel_rfl) ?_ _
        have b68 := (bd.trans (b7.mono bd.size)).trans (b8.mono (Nat.le_trans bd.size b7.size))
        have D8 := Ke.b D6 b68
        clear hHeld qL qZ m0 m1 m2 m3 m4 b7 b8 bd b68 D6
        go_wp2
        go_roundw
        case rel => first | exact ⟨k + 1, by omega, by go_num, D8⟩ | exact ⟨k + 1, by omega, by go_num⟩
        case measure => simp [intOf]; omega
      · have hlt2 : ¬ (k : Int) < (S.length : Int) := by omega
        have hagain : select16 T S = (S, 0) := by have h9 := select_again lin_dp3 HR.out HRD.out (by rw [HSR.out]; exact HR.out.needs HSS.out hT8); rw [HSR.out] at h9; exact h9
        have q5 := select_impl W5 (As.Hand.later HE.out B5.out) (.slice ao1 T.length cap1) (.slice a3 S.length c3) T S (HSE2.out.later D5.out) (HO2.out.later D5.out) (by omega) HF.out (by omega) (fun n hn => by have := (HRD.out n (HSS.out.sub n hn)).size; omega)
        unfold SlP at q5
        rw [hagain] at q5
        have hRne : R ≠ [] := fun h9 => by obtain ⟨t9, h8⟩ := HR.out.app; rw [h9] at h8; have h7 := congrArg List.length h8; rw [List.length_append, List.length_nil] at h7; omega
        have hSne := HSS.out.some hRne
        have hS0 : 0 < S.length := List.length_pos_iff.2 hSne
        clear hagain hRne
        go_wp2_with fail
        refine q5.mono ?_
        rintro e W6 ⟨v6, rfl, o6, b6⟩
        clear q5
        obtain ⟨a6, c6, rfl⟩ := Od.slice o6
        have D6 := Ke.b D5 b6
        have B6 : Hid (Below w.heap.size w W6) := B2.out.trans (D6.out.mono B2.out.size)
        have qs := same_needs W6 (.slice a6 S.length c6) (.slice a3 S.length c3) S o6.sd (HO2.out.later D6.out) (by omega)
        clear o6 b6
        go_wp2_with fail
        refine qs.mono ?_
        rintro e W7 ⟨rfl, b7⟩
        clear qs
        have B7 := Ke.b B6 b7
        have g0 : (0 : Int) < (S.length : Int) := by omega
        have g1 : decide ((0 : Int) < (S.length : Int)) = true := decide_eq_true g0
        have g2 : decide (0 < S.length) = true := decide_eq_true hS0
        go_wp2
        go_ret
        exact ⟨by first | rfl | simp, B7.out⟩
  · have nz : (c != 0) = true := by simpa using hc0
    have q7 := select_spec W2 (.slice ao1 T.length cap1) (.slice ao2 s.length cap2) T s HSE2.out HSD2.out (by omega) (by omega) (Dy.fits HT.out) HPZ.out
    rw [HSL2.out] at q7
    go_wp2_with fail
    refine q7.mono ?_
    rintro e W3 ⟨v7, rfl, _, b3⟩
    clear q7
    have B3 := Ke.b B2 b3
    go_wp2
    go_ret
    exact ⟨by first | rfl | simp, B3.out⟩

end Go.Proofs.YtlhmemnaiobgkaaGreatDoor.Se
