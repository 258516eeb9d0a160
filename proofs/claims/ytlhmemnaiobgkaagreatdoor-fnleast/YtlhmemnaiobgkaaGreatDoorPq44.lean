/- Texts in one: Re2, Si2, Gs6. -/
import Derived.Test.YtlhmemnaiobgkaaGreatDoorPq42
import Derived.Test.YtlhmemnaiobgkaaGreatDoorPq43
import Derived.Test.YtlhmemnaiobgkaaGreatDoorPq34
import Derived.Test.YtlhmemnaiobgkaaGreatDoorPq35
import Derived.Test.YtlhmemnaiobgkaaGreatDoorPq41
/- Chapter 16: FnSelected, over contracts of the landed functions. -/
namespace Go.Proofs.YtlhmemnaiobgkaaGreatDoor.Se
open Go.RowKit Go.Proofs.YtlhmemnaiobgkaaGreatDoor.Mem Go.Proofs.YtlhmemnaiobgkaaGreatDoor.Laws Go.Proofs.YtlhmemnaiobgkaaGreatDoor.Bytes Go.Proofs.YtlhmemnaiobgkaaGreatDoor.Ver Go.Proofs.YtlhmemnaiobgkaaGreatDoor.Ent Go.Proofs.YtlhmemnaiobgkaaGreatDoor.Fe Go.Proofs.YtlhmemnaiobgkaaGreatDoor.Draw
set_option linter.unusedVariables false
set_option linter.unusedSimpArgs false

set_option maxRecDepth 1000000 in
set_option maxHeartbeats 1000000 in
theorem drawSelect_any (w : World) (vb : Value) (xs : List Int) (hs : Sl w vb (bs xs)) (hby : Byt xs) (hx : xs.length ≤ 140737488355328) :
    Calls Tryz.prog 14 #[vb] w fun e w' => DrP w e w' := by
  have qd := drawReach_any w _ xs hs hby hx
  unfold DrP at qd
  obtain ⟨ao0, cap0, rfl, hc0⟩ := hs.form
  go_enter Tryz.func14, Tryz.ntmps14
  go_wp2_with fail
  refine qd.mono ?_
  rintro e W1 ⟨v1, v2, T, s, rfl, h1, h2, h3, h4, h5, h6, h7⟩
  clear qd
  have H : Hid (T.length ≤ 200 ∧ (∀ x ∈ T, Dw x) ∧ s.length ≤ 8 ∧ (∀ n ∈ s, Dp n) ∧ Se W1 v1 T ∧ Sd W1 v2 s ∧ Below w.heap.size w W1) := ⟨h1, h2, h3, h4, h5, h6, h7⟩
  clear h1 h2 h3 h4 h5 h6 h7
  go_wp2
  first | go_ret2 | go_ret
  exact ⟨v1, v2, T, s, rfl, H.out⟩

set_option maxRecDepth 1000000 in
set_option maxHeartbeats 1000000 in
theorem func2_law (w : World) (v1 v2 : Value) (T : List Ev) (s : List Nd) (h1 : Se w v1 T) (h2 : Sd w v2 s) (hT : T.length ≤ 200) (hw : ∀ x ∈ T, Dw x) (hs : s.length ≤ 8) (hp : ∀ n ∈ s, Dp n) :
    Calls Tryz.prog 16 #[v1, v2] w fun e w' => e = .returned (.int .i64 (select16 T s).2) ∧ Below w.heap.size w w' := by
  have q1 := select_spec w v1 v2 T s h1 h2 (by omega) (by omega) (Dw.fits hw) (Dp.fits hp)
  obtain ⟨c, hc⟩ : ∃ c, (select16 T s).2 = c := ⟨_, rfl⟩
  rw [hc] at q1 ⊢
  clear hc
  go_enter Tryz.func16, Tryz.ntmps16
  go_wp2_with fail
  refine q1.mono ?_
  rintro e W1 ⟨v3, rfl, _, b1⟩
  have B1 : Hid (Below w.heap.size w W1) := b1
  clear q1 b1
  go_wp2
  go_ret
  exact ⟨rfl, B1.out⟩
theorem lin_dp : Lin Dp where
  irr := fun hx => lin_pre.irr hx.2.1
  tr := fun hx hy hz => lin_pre.tr hx.2.1 hy.2.1 hz.2.1
  tot := fun hx hy => lin_pre.tot hx.2.1 hy.2.1
theorem nds_drop : ∀ (l : List Nd) (k : Nat), (nds l).drop (k * 5) = nds (l.drop k) := by
  intro l
  induction l with
  | nil => intro k; simp [nds]
  | cons x r ih =>
    intro k
    cases k with
    | zero => simp
    | succ k =>
      rw [show (k + 1) * 5 = k * 5 + 5 by omega]
      show (nds r).drop (k * 5) = _
      rw [ih]
      rfl
/-- one of a list, as a list -/
theorem Sd.one8 {w : World} {b off cap k : Nat} {l : List Nd} {q : Nd} (h : Sd w (.slice (some ⟨b, off, none⟩) l.length cap) l) (hq : l[k]? = some q) : Sd w (.slice (some ⟨b, off + k * 5, none⟩) 1 (cap - k)) [q] := by
  have hk := (List.getElem?_eq_some_iff.1 hq).1
  have hc : l.length ≤ cap := by obtain ⟨_, a9, c9, he9, h9, _⟩ := h; simp only [Value.slice.injEq] at he9; omega
  obtain ⟨b9, off9, cap9, he, _, m0, m1, m2, m3, m4⟩ := Sd.at h hq
  simp only [Value.slice.injEq, Option.some.injEq, Addr.mk.injEq] at he
  obtain ⟨⟨rfl, rfl, _⟩, _, rfl⟩ := he
  refine ⟨rfl, _, _, rfl, by simp; omega, (fun h9 => by simp at h9), fun _ => ⟨b, off + k * 5, rfl, fun j hj => ?_⟩⟩
  have hj5 : j < 5 := hj
  match j, hj5 with
  | 0, _ => exact m0
  | 1, _ => exact m1
  | 2, _ => exact m2
  | 3, _ => exact m3
  | 4, _ => exact m4

set_option maxRecDepth 1000000 in
set_option maxHeartbeats 3000000 in
theorem selected_law (w : World) (vb : Value) (xs : List Int) (hs : Sl w vb (bs xs)) (hby : Byt xs) (hx : xs.length ≤ maxLen)
    (iS : ∀ W v u T s, Below w.heap.size w W → Se W v T → Sd W u s → T.length ≤ 200 → (∀ x ∈ T, Dw x) → s.length ≤ 8 → (∀ n ∈ s, Dp n) → Calls Tryz.prog 15 #[v, u] W fun e w' => SlP T s W e w')
    (iR : ∀ W v u T s, Below w.heap.size w W → Se W v T → Sd W u s → T.length ≤ 200 → (∀ x ∈ T, Dw x) → s.length ≤ 8 → (∀ n ∈ s, Dp n) → Calls Tryz.prog 9 #[v, u] W fun e w' => RcP T s W e w')
    (iK : ∀ W v u s t, Below w.heap.size w W → Sd W v s → Sd W u t → s.length ≤ 60 → (∀ n ∈ s, Dp n) → t.length ≤ 60 → (∀ n ∈ t, Dp n) → Calls Tryz.prog 17 #[v, u] W fun e w' => e = .returned (.bool (covers16 s t)) ∧ Below W.heap.size W w')
    (iC : ∀ W v u T s, Below w.heap.size w W → Se W v T → Sd W u s → T.length ≤ 200 → (∀ x ∈ T, Dw x) → s.length ≤ 60 → (∀ n ∈ s, Dp n) → Calls Tryz.prog 18 #[v, u] W fun e w' => e = .returned (.bool (closed16 T s)) ∧ Below W.heap.size W w') :
    Calls Tryz.prog 4 #[vb] w fun e w' => e = .returned (.bool true) ∧ Below w.heap.size w w' := by
  have HSL : Hid (Sl w vb (bs xs)) := hs
  unfold maxLen at hx
  obtain ⟨ao0, cap0, rfl, hc0⟩ := hs.form
  rw [bs_len] at *
  clear hs
  by_cases hbig : 1048576 < xs.length
  · go_enter Tryz.func4, Tryz.ntmps4
    go_wp2_with (go_at_call 7; refine (big_yes _ _ _ _ hbig).mono ?_; rintro e w1 ⟨rfl, rfl⟩)
    go_ret
    exact ⟨rfl, Below.refl _ _⟩
  have qd := drawSelect_any w _ xs HSL.out hby (by omega)
  unfold DrP at qd
  go_enter Tryz.func4, Tryz.ntmps4
  go_wp2_with fail
  refine (big_no _ _ _ _ hbig).mono ?_
  rintro e w_ ⟨rfl, hw_⟩
  subst hw_
  go_wp2_with fail
  refine qd.mono ?_
  rintro e W1 ⟨v1, v2, T, s, rfl, hT2, hTw, hs8, hsp, hse, hsd, b1⟩
  have HT := Ke.h hTw
  have HP := Ke.h hsp
  have HSE : Hid (Se W1 v1 T) := hse
  have HSD : Hid (Sd W1 v2 s) := hsd
  have B1 : Hid (Below w.heap.size w W1) := b1
  obtain ⟨ao1, cap1, rfl, hcap1⟩ := hse.form
  obtain ⟨_, ao2, cap2, rfl, hcap2, _, _⟩ := hsd
  clear hTw hsp hse b1 qd
  have q1 := iS W1 _ _ T s B1.out HSE.out HSD.out hT2 HT.out hs8 HP.out
  unfold SlP at q1
  obtain ⟨hR60, hRD⟩ := reach_size (l := T) (s := s) (D := Dp) HP.out (fun e he => (HT.out e he).2.2.2)
  obtain ⟨R, hR⟩ : ∃ R, (reach16 T s).1 = R := ⟨_, rfl⟩
  obtain ⟨c, hc⟩ : ∃ c, (reach16 T s).2 = c := ⟨_, rfl⟩
  obtain ⟨S, hS⟩ : ∃ S, sel16 R = S := ⟨_, rfl⟩
  have hsel : select16 T s = (S, c) := by unfold select16; rw [hR, hc, hS]
  rw [hsel] at q1
  rw [hR] at hR60 hRD
  have HRD := Ke.h hRD
  have HSS : Hid (Sel R S) := by show Sel _ _; rw [← hS]; exact sel_sel lin_dp R HRD.out
  have hS60 : S.length ≤ 60 := by have h9 := sel_len R; rw [hS] at h9; omega
  have HSP : Hid (∀ n ∈ S, Dp n) := fun n hn => HRD.out n (HSS.out.sub n hn)
  have HN : Hid (c ≠ 0 → S = []) := fun h9 => by rcases reach16_code T s with h8 | ⟨h8, _⟩; exact absurd (hc.symm.trans h8) h9; rw [← hS, ← hR, h8]; rfl
  have HRC : Hid (c = 0 → Rch T s R) := fun h9 => by rw [← hR]; exact reach_rch (hc.trans h9)
  have HSL2 := Ke.h hsel
  go_wp2_with fail
  refine q1.mono ?_
  rintro e W2 ⟨v3, rfl, o3, b2⟩
  clear q1
  have D2 : Hid (Below W1.heap.size W1 W2) := b2
  have B2 : Hid (Below w.heap.size w W2) := B1.out.trans (b2.mono B1.out.size)
  have q2 := iR W2 _ _ T s B2.out (HSE.out.later D2.out) (HSD.out.later D2.out) hT2 HT.out hs8 HP.out
  unfold RcP at q2
  rw [hR, hc] at q2
  clear hR hc hRD hS hsel
  obtain ⟨a3, c3, rfl⟩ := Od.slice o3
  have HO2 : Hid (Sd W2 (.slice a3 S.length c3) S) := o3.sd
  clear b2 o3
  go_wp2_with fail
  refine q2.mono ?_
  rintro e W3 ⟨v4, rfl, o4, b3⟩
  clear q2
  obtain ⟨a4, c4, rfl⟩ := Od.slice o4
  have HR3 : Hid (Sd W3 (.slice a4 R.length c4) R) := o4.sd
  have hc4 : R.length ≤ c4 := by obtain ⟨_, a9, c9, he9, h9, _⟩ := HR3.out; simp only [Value.slice.injEq] at he9; omega
  have D3 : Hid (Below W1.heap.size W1 W3) := D2.out.trans (b3.mono D2.out.size)
  have HO3 := Ke.h (HO2.out.later b3)
  have HSE3 := Ke.h (HSE.out.later D3.out)
  have HSD3 := Ke.h (HSD.out.later D3.out)
  have B3 : Hid (Below w.heap.size w W3) := B1.out.trans (D3.out.mono B1.out.size)
  clear b3 o4 HO2 D2 B2 D3 HSE HSD B1
  have nc : (c != c) = false := by simp
  have eqc : (c == c) = true := by simp
  by_cases hc0 : c = 0
  · subst hc0
    have HR := Ke.h (HRC.out rfl)
    go_wp2_with fail
    go_loopw [9] (fun iv wr => ∃ k : Nat, k ≤ S.length ∧ iv = .int .i64 (k : Int) ∧ Hid (Below W3.heap.size W3 wr)) (fun iv _ => S.length - (intOf iv).toNat)
    case atStart => exact ⟨0, Nat.zero_le _, rfl, Below.refl _ _⟩
    case round =>
      obtain ⟨k, hk, rfl, D5⟩ := hrel
      obtain ⟨W5, hW5⟩ : ∃ X, X = wr := ⟨_, rfl⟩
      subst hW5
      by_cases hlt : k < S.length
      · have hlt2 : (k : Int) < (S.length : Int) := by omega
        obtain ⟨q, hq⟩ : ∃ q, S[k]? = some q := ⟨S[k], by simp [hlt]⟩
        have hqm := HSS.out.sub q (List.mem_of_getElem? hq)
        obtain ⟨b, off, cap9, he, _, m0, m1, m2, m3, m4⟩ := Sd.at (HO3.out.later D5.out) hq
        simp only [Value.slice.injEq] at he
        obtain ⟨rfl, _, rfl⟩ := he
        have qh : ∀ W, Below W5.heap.size W5 W → _ := fun W hW => has_law W (.slice a4 R.length c4) R q (HR3.out.later (D5.out.trans (hW.mono D5.out.size))) (by omega)
        simp only [(has16_iff R q).2 hqm] at qh
        clear hqm
        by_cases hk0 : 0 < k
        · obtain ⟨k0, hk1⟩ : ∃ k0, k = k0 + 1 := ⟨k - 1, by omega⟩
          have HK1 := Ke.h hk1
          obtain ⟨p, hp⟩ : ∃ p, S[k0]? = some p := ⟨S[k0]'(by omega), by simp <;> omega⟩
          obtain ⟨b9, off9, cap8, he, _, n0, _⟩ := Sd.at (HO3.out.later D5.out) hp
          simp only [Value.slice.injEq, Option.some.injEq, Addr.mk.injEq] at he
          obtain ⟨⟨hb9, ho9, _⟩, _, hc9⟩ := he
          subst hb9 ho9 hc9
          have hlpq : ltT p.path q.path = true := by
            have h9 := List.pairwise_iff_getElem.1 HSS.out.up k0 k (by omega) (by omega) (by omega)
            rw [(List.getElem?_eq_some_iff.1 hp).2, (List.getElem?_eq_some_iff.1 hq).2] at h9
            exact h9
          have hge := geq_str 9 p.path q.path
          rw [hlpq] at hge
          have wj : IntKind.i64.wrap ((k : Int) - 1) = (k0 : Int) := by rw [IntKind.wrap_i64]; omega
          have gz : decide ((0 : Int) < (k : Int)) = true := decide_eq_true (by omega)
          have gz2 : (0 : Int) < (k : Int) := by omega
          have hkS : (k0 : Int) < (S.length : Int) := by omega
          clear hp hlpq hk1
          clear hq
          go_upto_region 11 with fail
          refine wp_region_held_drew (S := fun w' => (w'.cell? ⟨b, off + k * 5, none⟩ = some (.string q.path) ∧ w'.cell? ⟨b, off + k * 5 + 1, none⟩ = some (.int .i64 q.a) ∧ w'.cell? ⟨b, off + k * 5 + 2, none⟩ = some (.int .i64 q.b) ∧ w'.cell? ⟨b, off + k * 5 + 3, none⟩ = some (.int .i64 q.c) ∧ w'.cell? ⟨b, off + k * 5 + 4, none⟩ = some (.string q.pre)) ∧ w'.cell? ⟨b, off + k0 * 5, none⟩ = some (.string p.path)) (by kernel_rfl) ⟨⟨m0, m1, m2, m3, m4⟩, n0⟩ (fun hHeld => ?_)
          obtain ⟨Wd, HWd, bd⟩ : ∃ X, Hid (W5.drew = X) ∧ Below W5.heap.size W5 X := ⟨_, rfl, Below.drew (Below.refl _ _)⟩
          have HHWd := HWd.out
          rw [HHWd] at hHeld ⊢
          clear HHWd
          refine Ke.y 0 rfl (fun _ _ _ h => h) ?_
          try simp only [Act.put, pu1, pu2, pu3, pu4, pu5, pu6]
          refine Ke.y 1 rfl (fun _ _ _ h => h) ?_
          try simp only [Act.put, pu1, pu2, pu3, pu4, pu5, pu6]
          refine Ke.y 2 rfl (fun _ _ _ h => h) ?_
          try simp only [Act.put, pu1, pu2, pu3, pu4, pu5, pu6]
          refine Ke.y 3 rfl (fun _ _ _ h => h) ?_
          try simp only [Act.put, pu1, pu2, pu3, pu4, pu5, pu6]
          refine Ke.y 4 rfl (fun _ _ _ h => h) ?_
          try simp only [Act.put, pu1, pu2, pu3, pu4, pu5, pu6]
          refine Ke.z 5 rfl (fun K hK => ?_)
          go_simp
          refine (qh Wd bd).mono ?_
          rintro e W7 ⟨rfl, b7⟩
          refine hK.out _ _ ⟨S5.keep (b := b) (o := off + k * 5) (x := q) hHeld.1 b7, keepR hHeld.2 b7⟩ (fun hHeld => ?_)
          clear hK K
          try simp only [Act.put, pu1, pu2, pu3, pu4, pu5, pu6]
          refine Ke.y 6 rfl (fun _ _ _ h => h) ?_
          try simp only [Act.put, pu1, pu2, pu3, pu4, pu5, pu6]
          refine Ke.y 7 rfl (fun _ _ _ h => h) ?_
          try simp only [Act.put, pu1, pu2, pu3, pu4, pu5, pu6]
          refine Ke.y 8 rfl (fun _ _ _ h => h) ?_
          try simp only [Act.put, pu1, pu2, pu3, pu4, pu5, pu6]
          refine Ke.y 9 rfl (fun _ _ _ h => h) ?_
          try simp only [Act.put, pu1, pu2, pu3, pu4, pu5, pu6]
          refine Ke.y 10 rfl (fun _ _ _ h => h) ?_
          try simp only [Act.put, pu1, pu2, pu3, pu4, pu5, pu6]
          refine Ke.y 11 rfl (fun _ _ _ h => h) ?_
          try simp only [Act.put, pu1, pu2, pu3, pu4, pu5, pu6]
          refine Ke.y 12 rfl (fun _ _ _ h => h) ?_
          try simp only [Act.put, pu1, pu2, pu3, pu4, pu5, pu6]
          refine Ke.y 13 rfl (fun _ _ _ h => h) ?_
          try simp only [Act.put, pu1, pu2, pu3, pu4, pu5, pu6]
          refine Ke.y 14 rfl (fun _ _ _ h => h) ?_
          try simp only [Act.put, pu1, pu2, pu3, pu4, pu5, pu6]
          refine Ke.y 15 rfl (fun _ _ _ h => h) ?_
          try simp only [Act.put, pu1, pu2, pu3, pu4, pu5, pu6]
          refine Ke.y 16 rfl (fun _ _ _ h => h) ?_
          try simp only [Act.put, pu1, pu2, pu3, pu4, pu5, pu6]
          refine Ke.y 17 rfl (fun _ _ _ h => h) ?_
          try simp only [Act.put, pu1, pu2, pu3, pu4, pu5, pu6]
          refine Ke.y 18 rfl (fun _ _ _ h => h) ?_
          try simp only [Act.put, pu1, pu2, pu3, pu4, pu5, pu6]
          refine Ke.y 19 rfl (fun _ _ _ h => h) ?_
          try simp only [Act.put, pu1, pu2, pu3, pu4, pu5, pu6]
          refine Ke.y 20 rfl (fun _ _ _ h => h) ?_
          try simp only [Act.put, pu1, pu2, pu3, pu4, pu5, pu6]
          refine Ke.y 21 rfl (fun _ _ _ h => h) ?_
          try simp only [Act.put, pu1, pu2, pu3, pu4, pu5, pu6]
          refine Ke.y 22 rfl (fun _ _ _ h => h) ?_
          try simp only [Act.put, pu1, pu2, pu3, pu4, pu5, pu6]
          refine Ke.y 23 rfl (fun _ _ _ h => h) ?_
          try simp only [Act.put, pu1, pu2, pu3, pu4, pu5, pu6]
          refine Ke.y 24 rfl (fun _ _ _ h => h) ?_
          try simp only [Act.put, pu1, pu2, pu3, pu4, pu5, pu6]
          refine wpAnyH_done (by kernel_rfl) ?_ _
          clear hHeld qh m0 m1 m2 m3 m4
          have D7 := Ke.b D5 (bd.trans (b7.mono bd.size))
          clear b7 bd
          go_wp2
          go_roundw
          case rel => first | exact ⟨k + 1, by omega, by go_num, D7⟩ | exact ⟨k + 1, by omega, by go_num⟩
          case measure => simp [intOf]; omega
        · have gz : decide ((0 : Int) < (k : Int)) = false := decide_eq_false (by omega)
          have gz2 : ¬ (0 : Int) < (k : Int) := by omega
          have gz3 : ¬ 0 < k := hk0
          clear hq
          go_upto_region 11 with fail
          refine wp_region_held_drew (S := fun w' => w'.cell? ⟨b, off + k * 5, none⟩ = some (.string q.path) ∧ w'.cell? ⟨b, off + k * 5 + 1, none⟩ = some (.int .i64 q.a) ∧ w'.cell? ⟨b, off + k * 5 + 2, none⟩ = some (.int .i64 q.b) ∧ w'.cell? ⟨b, off + k * 5 + 3, none⟩ = some (.int .i64 q.c) ∧ w'.cell? ⟨b, off + k * 5 + 4, none⟩ = some (.string q.pre)) (by kernel_rfl) ⟨m0, m1, m2, m3, m4⟩ (fun hHeld => ?_)
          obtain ⟨Wd, HWd, bd⟩ : ∃ X, Hid (W5.drew = X) ∧ Below W5.heap.size W5 X := ⟨_, rfl, Below.drew (Below.refl _ _)⟩
          have HHWd := HWd.out
          rw [HHWd] at hHeld ⊢
          clear HHWd
          refine Ke.y 0 rfl (fun _ _ _ h => h) ?_
          try simp only [Act.put, pu1, pu2, pu3, pu4, pu5, pu6]
          refine Ke.y 1 rfl (fun _ _ _ h => h) ?_
          try simp only [Act.put, pu1, pu2, pu3, pu4, pu5, pu6]
          refine Ke.y 2 rfl (fun _ _ _ h => h) ?_
          try simp only [Act.put, pu1, pu2, pu3, pu4, pu5, pu6]
          refine Ke.y 3 rfl (fun _ _ _ h => h) ?_
          try simp only [Act.put, pu1, pu2, pu3, pu4, pu5, pu6]
          refine Ke.y 4 rfl (fun _ _ _ h => h) ?_
          try simp only [Act.put, pu1, pu2, pu3, pu4, pu5, pu6]
          refine Ke.z 5 rfl (fun K hK => ?_)
          go_simp
          refine (qh Wd bd).mono ?_
          rintro e W7 ⟨rfl, b7⟩
          refine hK.out _ _ (S5.keep (b := b) (o := off + k * 5) (x := q) hHeld b7) (fun hHeld => ?_)
          clear hK K
          try simp only [Act.put, pu1, pu2, pu3, pu4, pu5, pu6]
          refine Ke.y 6 rfl (fun _ _ _ h => h) ?_
          try simp only [Act.put, pu1, pu2, pu3, pu4, pu5, pu6]
          refine Ke.y 7 rfl (fun _ _ _ h => h) ?_
          try simp only [Act.put, pu1, pu2, pu3, pu4, pu5, pu6]
          refine Ke.y 8 rfl (fun _ _ _ h => h) ?_
          try simp only [Act.put, pu1, pu2, pu3, pu4, pu5, pu6]
          refine Ke.y 9 rfl (fun _ _ _ h => h) ?_
          try simp only [Act.put, pu1, pu2, pu3, pu4, pu5, pu6]
          refine Ke.y 10 rfl (fun _ _ _ h => h) ?_
          try simp only [Act.put, pu1, pu2, pu3, pu4, pu5, pu6]
          refine Ke.x 11 rfl (fun _ _ _ h => h) ?_
          try simp only [Act.put, pu1, pu2, pu3, pu4, pu5, pu6]
          refine Ke.x 12 rfl (fun _ _ _ h => h) ?_
          try simp only [Act.put, pu1, pu2, pu3, pu4, pu5, pu6]
          refine Ke.x 13 rfl (fun _ _ _ h => h) ?_
          try simp only [Act.put, pu1, pu2, pu3, pu4, pu5, pu6]
          refine Ke.x 14 rfl (fun _ _ _ h => h) ?_
          try simp only [Act.put, pu1, pu2, pu3, pu4, pu5, pu6]
          refine Ke.x 15 rfl (fun _ _ _ h => h) ?_
          try simp only [Act.put, pu1, pu2, pu3, pu4, pu5, pu6]
          refine Ke.x 16 rfl (fun _ _ _ h => h) ?_
          try simp only [Act.put, pu1, pu2, pu3, pu4, pu5, pu6]
          refine Ke.x 17 rfl (fun _ _ _ h => h) ?_
          try simp only [Act.put, pu1, pu2, pu3, pu4, pu5, pu6]
          refine Ke.x 18 rfl (fun _ _ _ h => h) ?_
          try simp only [Act.put, pu1, pu2, pu3, pu4, pu5, pu6]
          refine Ke.x 19 rfl (fun _ _ _ h => h) ?_
          try simp only [Act.put, pu1, pu2, pu3, pu4, pu5, pu6]
          refine Ke.x 20 rfl (fun _ _ _ h => h) ?_
          try simp only [Act.put, pu1, pu2, pu3, pu4, pu5, pu6]
          refine Ke.x 21 rfl (fun _ _ _ h => h) ?_
          try simp only [Act.put, pu1, pu2, pu3, pu4, pu5, pu6]
          refine Ke.x 22 rfl (fun _ _ _ h => h) ?_
          try simp only [Act.put, pu1, pu2, pu3, pu4, pu5, pu6]
          refine Ke.y 23 rfl (fun _ _ _ h => h) ?_
          try simp only [Act.put, pu1, pu2, pu3, pu4, pu5, pu6]
          refine Ke.y 24 rfl (fun _ _ _ h => h) ?_
          try simp only [Act.put, pu1, pu2, pu3, pu4, pu5, pu6]
          refine wpAnyH_done (by kernel_rfl) ?_ _
          clear hHeld qh m0 m1 m2 m3 m4
          have D7 := Ke.b D5 (bd.trans (b7.mono bd.size))
          clear b7 bd
          go_wp2
          go_roundw
          case rel => first | exact ⟨k + 1, by omega, by go_num, D7⟩ | exact ⟨k + 1, by omega, by go_num⟩
          case measure => simp [intOf]; omega
      · have hlt2 : ¬ (k : Int) < (S.length : Int) := by omega
        have HR5 := Ke.h (HR3.out.later D5.out)
        have HO5 := Ke.h (HO3.out.later D5.out)
        have HSE5 := Ke.h (HSE3.out.later D5.out)
        have HSD5 := Ke.h (HSD3.out.later D5.out)
        have B5 : Hid (Below w.heap.size w W5) := B3.out.trans (D5.out.mono B3.out.size)
        clear HR3 HO3 HSE3 HSD3 B3 D5
        go_wp2_with fail
        go_loopw [10] (fun jv wr => ∃ j : Nat, j ≤ R.length ∧ jv = .int .i64 (j : Int) ∧ Hid (Below W5.heap.size W5 wr)) (fun jv _ => R.length - (intOf jv).toNat)
        case atStart => exact ⟨0, Nat.zero_le _, rfl, Below.refl _ _⟩
        case round =>
          obtain ⟨j, hj, rfl, D8⟩ := hrel
          obtain ⟨W8, hW8⟩ : ∃ X, X = wr := ⟨_, rfl⟩
          subst hW8
          have B8 : Hid (Below w.heap.size w W8) := B5.out.trans (D8.out.mono B5.out.size)
          by_cases hjt : j < R.length
          · have hjt2 : (j : Int) < (R.length : Int) := by omega
            obtain ⟨n, hn⟩ : ∃ n, R[j]? = some n := ⟨R[j], by simp [hjt]⟩
            have hnm := List.mem_of_getElem? hn
            have hR8 := HR5.out.later D8.out
            obtain ⟨b, off, cap8, he, _, _⟩ := Sd.at hR8 hn
            simp only [Value.slice.injEq] at he
            obtain ⟨rfl, _, rfl⟩ := he
            have h1n := Sd.one8 hR8 hn
            have qk := iK W8 (.slice a3 S.length c3) (.slice (some ⟨b, off + j * 5, none⟩) 1 (c4 - j)) S [n] B8.out (HO5.out.later D8.out) h1n hS60 HSP.out (by simp) (fun m hm => by rw [List.mem_singleton.1 hm]; exact HRD.out n hnm)
            rw [HSS.out.covers (fun m hm => by rw [List.mem_singleton.1 hm]; exact hnm)] at qk
            clear hn hnm hR8 h1n
            have l1 : (j : Int) + 1 ≤ (c4 : Int) := by omega
            have l2 : (j : Int) ≤ (j : Int) + 1 := by omega
            have l3 : j + 1 ≤ c4 := by omega
            have l4 : ¬ c4 = j := by omega
            have wj : IntKind.i64.wrap ((j : Int) + 1) = (j : Int) + 1 := by rw [IntKind.wrap_i64]; omega
            have t1 : ((j : Int) + 1).toNat = j + 1 := by omega
            have t2 : j + 1 - j = 1 := by omega
            go_wp2_with fail
            refine qk.mono ?_
            rintro e W9 ⟨rfl, b9⟩
            clear qk l1 l2 l3 l4 wj t1 t2
            have D9 := Ke.b D8 b9
            go_wp2
            go_roundw
            case rel => first | exact ⟨j + 1, by omega, by go_num, D9⟩ | exact ⟨j + 1, by omega, by go_num⟩
            case measure => simp [intOf]; omega
          · have hjt2 : ¬ (j : Int) < (R.length : Int) := by omega
            have qa := iK W8 (.slice a3 S.length c3) (.slice ao2 s.length cap2) S s B8.out (HO5.out.later D8.out) (HSD5.out.later D8.out) hS60 HSP.out (by omega) HP.out
            rw [HR.out.covers HSS.out] at qa
            go_wp2_with fail
            refine qa.mono ?_
            rintro e W9 ⟨rfl, b9⟩
            clear qa
            have D9 := Ke.b D8 b9
            have B9 : Hid (Below w.heap.size w W9) := B5.out.trans (D9.out.mono B5.out.size)
            have qb := iC W9 (.slice ao1 T.length cap1) (.slice a3 S.length c3) T S B9.out (HSE5.out.later D9.out) (HO5.out.later D9.out) hT2 HT.out hS60 HSP.out
            rw [HR.out.closed HSS.out] at qb
            go_wp2_with fail
            refine qb.mono ?_
            rintro e W10 ⟨rfl, b10⟩
            clear qb
            have B10 := Ke.b B9 b10
            have hor : 0 < S.length ∨ (S = [] ∧ s = []) := by
              by_cases h0 : S = []
              · right
                have hR0 : R = [] := Classical.byContradiction fun h9 => HSS.out.some h9 h0
                obtain ⟨t9, h9⟩ := HR.out.app
                rw [hR0] at h9
                have h8 := congrArg List.length h9
                rw [List.length_append, List.length_nil] at h8
                exact ⟨h0, List.length_eq_zero_iff.1 (by omega)⟩
              · left; exact List.length_pos_iff.2 h0
            rcases hor with h0 | ⟨h0, h1⟩
            · have g0 : (0 : Int) < (S.length : Int) := by omega
              have g1 : decide ((0 : Int) < (S.length : Int)) = true := decide_eq_true g0
              have g2 : decide (0 < S.length) = true := decide_eq_true h0
              have g3 : S ≠ [] := List.length_pos_iff.1 h0
              go_wp2
              go_ret
              exact ⟨by first | rfl | simp, B10.out⟩
            · subst h0 h1
              have g0 : (([] : List Nd).length) = 0 := rfl
              go_wp2
              go_ret
              exact ⟨by first | rfl | simp, B10.out⟩
  · have hS0 := HN.out hc0
    have q7 := func2_law W3 (.slice ao1 T.length cap1) (.slice ao2 s.length cap2) T s HSE3.out HSD3.out hT2 HT.out hs8 HP.out
    rw [HSL2.out] at q7
    have q7 : Calls Tryz.prog 16 #[.slice ao1 T.length cap1, .slice ao2 s.length cap2] W3 (fun e w' => e = .returned (.int .i64 c) ∧ Below W3.heap.size W3 w') := q7
    have hS00 : S.length = 0 := by rw [hS0]; rfl
    have nz : (c != 0) = true := by simpa using hc0
    have ez : ((0 : Int) == 0) = true := by decide
    skip
    subst hS0
    have l0 : ([] : List Nd).length = 0 := rfl
    clear hS00 HSL2 HSS HSP HO3 HN HRC
    go_wp2_with fail
    refine q7.mono ?_
    rintro e W4 ⟨rfl, b4⟩
    clear q7
    have B4 := Ke.b B3 b4
    go_wp2
    go_ret
    exact ⟨by first | rfl | simp, B4.out⟩

end Go.Proofs.YtlhmemnaiobgkaaGreatDoor.Se

/- Chapter 16, the landed code: is a list closed. -/
namespace Go.Proofs.YtlhmemnaiobgkaaGreatDoor.Se
open Go.RowKit Go.Proofs.YtlhmemnaiobgkaaGreatDoor.Mem Go.Proofs.YtlhmemnaiobgkaaGreatDoor.Laws Go.Proofs.YtlhmemnaiobgkaaGreatDoor.Ver Go.Proofs.YtlhmemnaiobgkaaGreatDoor.Ent Go.Proofs.YtlhmemnaiobgkaaGreatDoor.Fe
set_option linter.unusedVariables false
set_option linter.unusedSimpArgs false

def shutI (l : List Ev) (list : List Nd) (q : Nd) : Bool := (res15 q l).2.2 && coversI list (res15 q l).2.1
def closedI (l : List Ev) (list : List Nd) : Bool := list.all (shutI l list)
theorem closedI_no {l : List Ev} {s : List Nd} {q : Nd} {j : Nat} (h : s[j]? = some q) (hn : shutI l s q = false) : closedI l s = false := by
  unfold closedI
  rw [List.all_eq_false]
  exact ⟨q, List.mem_of_getElem? h, by rw [hn]; decide⟩
theorem closedI_yes {l : List Ev} {s : List Nd} (h : ∀ q ∈ s, shutI l s q = true) : closedI l s = true := by
  unfold closedI
  rw [List.all_eq_true]
  exact h
/-- of versions that are right: as the specification tells it -/
theorem closedI_eq {l : List Ev} {list : List Nd} (h1 : ∀ x ∈ list, okN x) (h2 : ∀ e ∈ l, ∀ x ∈ e.l, okN x) : closedI l list = closed16 l list := by
  have hc : ∀ q, shutI l list q = shut1 l list q := by
    intro q
    unfold shutI shut1 res15 find15
    cases hf : l.find? (fun x => isN q x.n) with
    | none => rfl
    | some e =>
      show (true && coversI list e.l) = covers16 list e.l
      rw [Bool.true_and]
      exact coversI_eq h1 (h2 e (List.mem_of_find?_eq_some hf))
  have e : closed16 l list = list.all (shut1 l list) := rfl
  rw [e]
  unfold closedI
  congr 1
  funext q
  exact hc q
theorem res_facts {P : Nd → Prop} {l : List Ev} (h : ∀ e ∈ l, e.l.length ≤ 1000000000000 ∧ ∀ x ∈ e.l, P x) (q : Nd) : (res15 q l).2.1.length ≤ 1000000000000 ∧ ∀ x ∈ (res15 q l).2.1, P x := by
  unfold res15
  cases hf : l.find? (fun x => isN q x.n) with
  | none => exact ⟨by simp, fun n hn => (List.not_mem_nil hn).elim⟩
  | some e => exact h e (List.mem_of_find?_eq_some hf)

set_option maxRecDepth 1000000 in
set_option maxHeartbeats 4000000 in
theorem closed_impl (w : World) (v1 v2 : Value) (l : List Ev) (s : List Nd) (h1 : Se w v1 l) (h2 : Sd w v2 s) (hl : l.length ≤ 1000000000) (hz : ∀ x ∈ l, Fit9 x) (hs : s.length ≤ 1000000000000) (hz1 : ∀ e ∈ l, e.l.length ≤ 1000000000000 ∧ ∀ x ∈ e.l, x.pre.size ≤ 1000000000000) (hz2 : ∀ x ∈ s, x.pre.size ≤ 1000000000000) :
    Calls Tryz.prog 18 #[v1, v2] w fun e w' => e = .returned (.bool (closedI l s)) ∧ Below w.heap.size w w' := by
  have HS1 : Hid (Se w v1 l) := h1
  have HS2 : Hid (Sd w v2 s) := h2
  obtain ⟨ao, cap, rfl, hcap⟩ := h1.form
  obtain ⟨_, ao2, cap2, rfl, hcap2, _, _⟩ := h2
  have B0 : Hid (Below w.heap.size w w) := Below.refl _ _
  go_enter Tryz.func18, Tryz.ntmps18
  go_wp2_with fail
  go_loopw [11] (fun i wr => ∃ k : Nat, k ≤ s.length ∧ i = .int .i64 (k : Int) ∧ Hid (∀ y ∈ s.take k, shutI l s y = true) ∧ Hid (Below w.heap.size w wr)) (fun i _ => s.length - (intOf i).toNat)
  case atStart => exact ⟨0, Nat.zero_le _, rfl, (fun x hx => by simp at hx), B0⟩
  case round =>
    obtain ⟨k, hk, rfl, HN, B1⟩ := hrel
    obtain ⟨W1, hW1⟩ : ∃ X, X = wr := ⟨_, rfl⟩
    subst hW1
    by_cases hkt : k < s.length
    · have hkt2 : (k : Int) < (s.length : Int) := by omega
      obtain ⟨q, hq⟩ : ∃ q, s[k]? = some q := ⟨s[k], by simp [hkt]⟩
      have HQ : Hid (s[k]? = some q) := hq
      obtain ⟨b2_, off2, cap9, he, _, p0, p1, p2, p3, p4⟩ := Sd.at (HS2.out.later B1.out) hq
      simp only [Value.slice.injEq] at he
      obtain ⟨rfl, _, rfl⟩ := he
      clear hq
      obtain ⟨W2, HW2, b2, y2, hS2, r2⟩ := Ke.l1 W1 #[.string q.path, .int .i64 q.a, .int .i64 q.b, .int .i64 q.c, .string q.pre] 38
      have B2 := Ke.b B1 b2
      have q1 := find_impl W2 _ l q (HS1.out.later B2.out) hl hz
      obtain ⟨fl, fp⟩ := res_facts hz1 q
      obtain ⟨R, hR⟩ : ∃ R, (res15 q l).1 = R := ⟨_, rfl⟩
      obtain ⟨t, ht⟩ : ∃ t, (res15 q l).2.1 = t := ⟨_, rfl⟩
      obtain ⟨ok, hok⟩ : ∃ ok, (res15 q l).2.2 = ok := ⟨_, rfl⟩
      have HU : Hid (shutI l s q = (ok && coversI s t)) := by show _ = _; unfold shutI; rw [ht, hok]
      rw [hR, ht, hok] at q1
      rw [ht] at fl fp
      have HP := Ke.h fp
      clear hR ht hok fp
      go_upto_region 4 with fail
      rw [HW2.out]
      clear p0 p1 p2 p3 p4
      have c2 := Ke.c r2
      go_wp2_with fail
      refine q1.mono ?_
      rintro e W3 ⟨u, rfl, o3, b3⟩
      clear q1
      obtain ⟨ao3, cap3, rfl⟩ := Od.slice o3
      have HO : Hid (Od W3 W2.heap.size W3.heap.size (.slice ao3 t.length cap3) t) := o3
      clear o3
      have B3 := Ke.b B2 b3
      obtain ⟨W4, HW4, b4, y4, hS4, r4⟩ := Ke.l1 W3 #[.string R.path, .int .i64 R.a, .int .i64 R.b, .int .i64 R.c, .string R.pre, .slice ao3 t.length cap3] 34
      have B4 := Ke.b B3 b4
      have HO4 := Ke.h (On.later HO.out b4 (Nat.le_refl _))
      go_upto_region 5 with fail
      rw [HW4.out]
      have c4 := Ke.c r4
      cases ok
      · go_wp2
        go_ret
        exact ⟨by rw [closedI_no HQ.out (by rw [HU.out]; rfl)]; rfl, B4.out⟩
      · have q4 := covers_impl W4 _ _ s t (HS2.out.later B4.out) (Od.sd HO4.out) hs fl hz2 HP.out
        obtain ⟨V, hV⟩ : ∃ V, coversI s t = V := ⟨_, rfl⟩
        rw [hV] at q4
        have HU2 : Hid (shutI l s q = V) := by show _ = _; rw [HU.out, hV]; rfl
        clear hV
        go_wp2_with fail
        refine q4.mono ?_
        rintro e W5 ⟨rfl, b5⟩
        clear q4
        have B5 := Ke.b B4 b5
        cases V
        · go_wp2
          go_ret
          exact ⟨by rw [closedI_no HQ.out HU2.out]; rfl, B5.out⟩
        · go_wp2
          go_roundw
          case rel => exact ⟨k + 1, by omega, by go_num, fun y hy => by rw [take_snoc15 HQ.out] at hy; rcases List.mem_append.1 hy with h9 | h9; exact HN.out y h9; rw [List.mem_singleton.1 h9]; exact HU2.out, B5⟩
          case measure => simp [intOf]; omega
    · have hkt2 : ¬ (k : Int) < (s.length : Int) := by omega
      have HE : Hid (k = s.length) := by show _ = _; omega
      go_wp2
      go_ret
      exact ⟨by rw [closedI_yes (fun y hy => HN.out y (by rw [HE.out, List.take_length]; exact hy))]; rfl, B1.out⟩

end Go.Proofs.YtlhmemnaiobgkaaGreatDoor.Se

/- Chapter 15, the landed code: VersionsOf. -/
namespace Go.Proofs.YtlhmemnaiobgkaaGreatDoor.Fe
open Go.RowKit Go.Shelf Go.Proofs.YtlhmemnaiobgkaaGreatDoor.Mem Go.Proofs.YtlhmemnaiobgkaaGreatDoor.Laws Go.Proofs.YtlhmemnaiobgkaaGreatDoor.Ver Go.Proofs.YtlhmemnaiobgkaaGreatDoor.Ent
set_option linter.unusedVariables false
set_option linter.unusedSimpArgs false
attribute [local go_sem] Oper.semAt_some

/-- what a round keeps, for the iterator and for the loop -/
def Kz9 (n0 : Nat) (bs : List Nat) (A B : World) : Prop := n0 ≤ A.heap.size ∧ KeepsOthers A B ∧ Ks n0 bs A B
theorem Kz9.refl {n0 : Nat} {bs : List Nat} {A : World} (h : n0 ≤ A.heap.size) : Kz9 n0 bs A A := ⟨h, KeepsOthers.refl A, Below.refl _ _, fun b hb t v hv => hv⟩
theorem Kz9.later {n0 : Nat} {bs : List Nat} {A B C : World} (h : Kz9 n0 bs A B) (b : Below B.heap.size B C) : Kz9 n0 bs A C :=
  ⟨h.1, h.2.1.trans (others_below9 b), Ks_t h.2.2 (Ks_below b (Nat.le_trans h.1 h.2.2.1.size))⟩
theorem Kz9.gro {n0 : Nat} {bs : List Nat} {A B C : World} {r : Option Nat} (h : Kz9 n0 bs A B) (g : B.grownBy C r) (h1 : ∀ k, r = some k → n0 ≤ k) (h2 : ∀ b ∈ bs, r ≠ some b) (h3 : ∀ (j : Nat) (o : Obj), r = some j → B.heap[j]? = some o → o.isCells = true) : Kz9 n0 bs A C :=
  ⟨h.1, h.2.1.trans (KeepsOthers.of_grownBy g h3), Ks_t h.2.2 ⟨belowGro (Below.refl _ _) g (Nat.le_trans h.1 h.2.2.1.size) h1, fun b hb t v hv => rowGro hv g (h2 b hb)⟩⟩
theorem Kz9.row {n0 : Nat} {bs : List Nat} {A B C : World} {x : Nat} {cs : Array Value} {t : TypeId} {fr : Nat × Nat} (h : Kz9 n0 bs A B) (hr : B.heap[x]? = some (.cells cs t fr)) (g : B.grownBy C (some x)) (h1 : n0 ≤ x) (h2 : ∀ b ∈ bs, b ≠ x) : Kz9 n0 bs A C :=
  h.gro g (fun k e => by injection e; omega) (fun b hb e => by injection e with e; exact h2 b hb e.symm) (fun j o ej hj => by cases ej; rw [hr] at hj; cases hj; rfl)
theorem Kz9.own {n0 n m : Nat} {bs : List Nat} {A B C : World} {lo hi : Nat} {e : TypeId} {v : Value} {cs : List Value} (h : Kz9 n0 bs A B) (o : On n B lo hi e v m cs) (g : B.grownBy C v.ownBlock) (h1 : n0 ≤ lo) (h2 : ∀ b ∈ bs, b < lo) : Kz9 n0 bs A C :=
  h.gro g (fun k e => by have := On.lt o e; omega) (fun b hb e => by have := On.lt o e; have := h2 b hb; omega) (fun j o9 ej hj => by
    rcases o.1.2 with ⟨rfl, _⟩ | ⟨g9, cap, cur, rfl, _, hgb, _⟩
    · simp [Value.ownBlock] at ej
    · simp [Value.ownBlock] at ej
      subst ej
      rw [hgb] at hj
      cases hj
      rfl)
/-- versions that are owned, and end ahead of what is new -/
def Owt (w : World) (lo hi : Nat) (v : Value) (l : List Nd) : Prop := Ow w lo hi v l ∧ hi ≤ w.heap.size
theorem Owt.later {w w' : World} {lo hi : Nat} {v : Value} {l : List Nd} (h : Owt w lo hi v l) (b : Below w.heap.size w w') : Owt w' lo hi v l := ⟨On.later h.1 b h.2, Nat.le_trans h.2 b.size⟩
theorem Owt.wide {w : World} {lo hi lo' : Nat} {v : Value} {l : List Nd} (h : Owt w lo hi v l) (h1 : lo' ≤ lo) : Ow w lo' w.heap.size v l := On.mono h.1 h1 h.2
theorem snocW {w : World} {lo hi : Nat} {v : Value} {l : List Nd} {n : Nd} (o : On 4 w lo hi 32 v (l.length + 1) (vcs l ++ (vc n).toList)) : Ow w lo hi v (l ++ [n]) := Ow.snoc o
theorem snocD {w : World} {lo hi : Nat} {v : Value} {l : List Nd} {n : Nd} (o : On 5 w lo hi 38 v (l.length + 1) (nds l ++ (nc n).toList)) : Od w lo hi v (l ++ [n]) := Od.snoc o
theorem nc_ones (n : Nd) : ∀ u ∈ (nc n).toList, u.oneCell' = true := cs_oneN n

set_option maxRecDepth 1000000 in
set_option maxHeartbeats 4000000 in
theorem path_impl (w : World) (p : ByteArray) (x : Nd) (u : Value) (g : Nat) (hg : Boxed w g 9 (.string p)) :
    Calls Tryz.prog 53 #[.agg #[.string x.path, .int .i64 x.a, .int .i64 x.b, .int .i64 x.c, .string x.pre, u], .pointer (some ⟨g, 0, none⟩)] w fun e w' => e = .returned (.bool (x.path.toList == p.toList)) ∧ Below w.heap.size w w' := by
  obtain ⟨W1, HW1, b1, y1, hS1, r1⟩ := Ke.l1 w #[.string x.path, .int .i64 x.a, .int .i64 x.b, .int .i64 x.c, .string x.pre, u] 34
  have a2 : ∀ ob, (w.alloc ob).cell? ⟨g, 0, none⟩ = some (.string p) := fun ob => (Boxed.alloc hg ob).cell
  go_enter Tryz.func53, Tryz.ntmps53
  go_wp2
  go_ret
  exact ⟨rfl, by first | exact b1 | (rw [HW1.out]; exact b1)⟩

set_option maxRecDepth 1000000 in
set_option maxHeartbeats 4000000 in
theorem stops_path (n : Nat) (hn : 1 ≤ n) (we w : World) (hwe : Below we.heap.size we w) (v : Value) (l : List Ev) (h : Se we v l) (hl : l.length ≤ 1000000000000) (p : ByteArray) (g : Nat) (b : Nat) (hb : we.heap.size ≤ b) (x1 : Boxed w b 24 v) (x3 : Boxed w g 9 (.string p)) (x2 : Boxed w (b + 1) 71 (.func (.func 53) #[] #[.pointer (some ⟨g, 0, none⟩)])) :
    SeqStopsK Fence.wide n Tryz.prog 77 #[.pointer (some ⟨b, 0, none⟩), .pointer (some ⟨b + 1, 0, none⟩)] (fun x : { x // x ∈ l } => #[.agg #[.string x.1.n.path, .int .i64 x.1.n.a, .int .i64 x.1.n.b, .int .i64 x.1.n.c, .string x.1.n.pre, x.1.u]]) (Ks we.heap.size [g, b, b + 1])
      (fun xs => xs.map Subtype.val = l.filter (fun x => x.n.path.toList == p.toList)) (fun pre => pre.map Subtype.val <+: l.filter (fun x => x.n.path.toList == p.toList)) (l.length + 1) w := fun lr J Jx W hW hJ hJx hY h0 => by
  have HS : Hid (Se we v l) := h
  obtain ⟨ao, cap, rfl, hcap⟩ := h.form
  have hBW : Below we.heap.size we W := hwe.trans (hW.mono hwe.size)
  have c1 := (Boxed.same9 x1 hW).cell
  have X1 : Hid (Boxed W b 24 (.slice ao l.length cap)) := Boxed.same9 x1 hW
  have X2 : Hid (Boxed W (b + 1) 71 (.func (.func 53) #[] #[.pointer (some ⟨g, 0, none⟩)])) := Boxed.same9 x2 hW
  have hJb : ∀ (pre : List { x // x ∈ l }) (V V' : World), J pre V → Below V.heap.size V V' → J pre V' := fun pre V V' hj hB => hJ pre V V' none hj (grown_below9 hB) (fun r e => by cases e)
  have X3 : Hid (Boxed W g 9 (.string p)) := Boxed.same9 x3 hW
  clear x1 x2 x3 h
  refine callsIn_of_wp Tryz.func77 rfl trivial ?_ rfl
  simp only [Tryz.ntmps77, List.size_toArray, List.length_cons, List.length_nil, Nat.reduceAdd, Nat.reduceSub, Array.replicate_succ, Array.replicate_zero, List.push_toArray, List.append_toArray, List.nil_append, List.cons_append]
  gi_wp2
  gi_loopw [8] (fun i wr => ∃ (k : Nat) (Q : List { x // x ∈ l }), k ≤ l.length ∧ i = .int .i64 (k : Int) ∧ Hid (Q.map Subtype.val = (l.take k).filter (fun x => x.n.path.toList == p.toList)) ∧ J Q wr ∧ Hid (Below we.heap.size we wr) ∧ Hid (Boxed wr (b + 1) 71 (.func (.func 53) #[] #[.pointer (some ⟨g, 0, none⟩)])) ∧ Hid (Boxed wr b 24 (.slice ao l.length cap)) ∧ Hid (Boxed wr g 9 (.string p))) (fun i _ => l.length - (intOf i).toNat)
  case atStart => exact ⟨0, [], Nat.zero_le _, rfl, by show _ = _; simp, h0, hBW, X2, X1, X3⟩
  case round =>
    obtain ⟨k, Q, hk, rfl, HQ, hj, HB, X2, X1, X3⟩ := hrel
    clear hBW c1
    by_cases hlt : k < l.length
    · obtain ⟨x, hx⟩ : ∃ x, l[k]? = some x := ⟨l[k], by simp [hlt]⟩
      have hmem : x ∈ l := List.mem_of_getElem? hx
      obtain ⟨b9, off, cap9, he, _, m0, m1, m2, m3, m4, m5, hsd⟩ := Se.at (HS.out.later HB.out) hx
      simp only [Value.slice.injEq] at he
      obtain ⟨rfl, _, rfl⟩ := he
      have HX : Hid (l[k]? = some x) := hx
      have HQL : Hid (Q.length ≤ k) := len_filter HQ.out hk
      obtain ⟨au, Lu, cu, hu⟩ : ∃ au Lu cu, x.u = .slice au Lu cu := by
        obtain ⟨_, au, cu, hu, _⟩ := hsd
        exact ⟨au, _, cu, hu⟩
      have hy0 := hY Q ⟨x, hmem⟩
      dsimp only at hy0
      rw [hu] at m5 hy0
      clear hx hsd
      -- the loop's variable
      obtain ⟨W1, HW1, b1, y1, hS1, r1⟩ := Ke.l1 wr #[.string x.n.path, .int .i64 x.n.a, .int .i64 x.n.b, .int .i64 x.n.c, .string x.n.pre, .slice au Lu cu] 34
      have hlt2 : (k : Int) < (l.length : Int) := by omega
      have a2 : ∀ ob, (wr.alloc ob).cell? ⟨b + 1, 0, none⟩ = some _ := fun ob => (Boxed.alloc X2.out ob).cell
      have B1 := Ke.b HB b1
      have X21 := Ke.h (Boxed.same9 X2.out b1)
      have X11 := Ke.h (Boxed.same9 X1.out b1)
      have X31 := Ke.h (Boxed.same9 X3.out b1)
      have hj1 := hJb Q _ _ hj b1
      have hq := fun W (hB : Below we.heap.size we W) (hg : Boxed W g 9 (.string p)) => path_impl W p x.n (.slice au Lu cu) g hg
      clear X1 X2 X3 HB hj
      have hnq : (x.n.path.toList == p.toList) = (x.n.path.toList == p.toList) := rfl
      obtain ⟨P, hP⟩ : ∃ P, (x.n.path.toList == p.toList) = P := ⟨_, rfl⟩
      rw [hP] at hq
      have HP : Hid ((x.n.path.toList == p.toList) = P) := hP
      clear hP hnq
      gi_wp2_with fail
      refine ⟨trivial, ?_⟩
      rw [HW1.out]
      refine (callsIn_wide.2 (hq _ B1.out X31.out)).mono ?_
      rintro e w2 ⟨rfl, b2⟩
      have B2 := Ke.b B1 b2
      have X22 := Ke.h (Boxed.same9 X21.out b2)
      have X12 := Ke.h (Boxed.same9 X11.out b2)
      have X32 := Ke.h (Boxed.same9 X31.out b2)
      have hj2 := hJb Q _ _ hj1 b2
      have r2 := Ke.r r1 b2
      have c2 := Ke.c r2
      clear B1 X21 X11 X31 hj1 r1 b2 hq HW1 b1 y1 hS1 a2 m0 m1 m2 m3 m4 m5
      have HQ2 := map_filter_snoc (p := fun x => (x.n.path.toList == p.toList)) HX.out hmem HQ.out
      rw [HP.out] at HQ2
      cases P
      · have HQ3 : Hid (Q.map Subtype.val = (l.take (k + 1)).filter (fun x => x.n.path.toList == p.toList)) := HQ2
        clear HQ2 hy0 c2
        gi_wp2
        refine ⟨fun _ h => (by cases h), ?_⟩
        gi_wp2
        go_roundw
        case rel => exact ⟨k + 1, Q, by omega, by go_num, HQ3, hj2, B2, X22, X12, X32⟩
        case measure => simp [intOf]; omega
      · have HQ3 : Hid ((Q ++ [(⟨x, hmem⟩ : { x // x ∈ l })]).map Subtype.val = (l.take (k + 1)).filter (fun x => x.n.path.toList == p.toList)) := HQ2
        obtain ⟨fn, tmps, assign, body, hy, hR⟩ := hy0 w2 hj2 (by have := HQL.out; omega)
        clear HQ2 hy0
        gi_wp2
        refine hR.mono ?_
        rintro e W3 (⟨rfl, hJ3, hk3⟩ | ⟨rfl, hJx3⟩)
        · have B3 : Hid (Below we.heap.size we W3) := B2.out.trans hk3.1
          have X23 := Ke.h (hk3.2 (b + 1) (by simp) _ _ X22.out)
          have X13 := Ke.h (hk3.2 b (by simp) _ _ X12.out)
          have X33 := Ke.h (hk3.2 g (by simp) _ _ X32.out)
          clear hk3 hy hR c2 r2
          gi_wp2
          go_roundw
          case rel => exact ⟨k + 1, Q ++ [(⟨x, hmem⟩ : { x // x ∈ l })], by omega, by go_num, HQ3, hJ3, B3, X23, X13, X33⟩
          case measure => simp [intOf]; omega
        · gi_wp2
          refine bodyPost_ret (results_none rfl _ _ _) rfl ?_
          exact ⟨⟨_, rfl⟩, .inr ⟨Q ++ [(⟨x, hmem⟩ : { x // x ∈ l })], by have h9 := HQ3.out; rw [h9]; exact pre_filter _, hJx3⟩⟩
    · have hkl : k = l.length := by omega
      have HF : Hid (Q.map Subtype.val = l.filter (fun x => x.n.path.toList == p.toList)) := by
        have := HQ.out
        rw [hkl, List.take_length] at this
        exact this
      have hlt2 : ¬ (k : Int) < (l.length : Int) := by omega
      clear hkl
      gi_wp2
      go_end0
      exact ⟨⟨_, rfl⟩, .inl ⟨Q, HF.out, hj⟩⟩

set_option maxRecDepth 1000000 in
set_option maxHeartbeats 4000000 in
theorem versions_in (w : World) (v : Value) (l : List Ev) (p : ByteArray) (h : Se w v l) (hl : l.length ≤ 1000000000) (hz : ∀ x ∈ l, Fit9 x) :
    CallsIn Fence.wide 6 Tryz.prog 21 #[v, .string p] w fun e w' => ∃ v', e = .returned v' ∧ Ow w' w.heap.size w'.heap.size v' (vers15 p (l.map Ev.n)) ∧ Below w.heap.size w w' := by
  have h1 : 1 ≤ 6 := by omega
  obtain ⟨i0, hi, hz0, hz1, hz2⟩ := info_parts infoVe
  have HS : Hid (Se w v l) := h
  have HZ : Hid (∀ x ∈ l, Fit9 x) := hz
  obtain ⟨ao, cap, rfl, hcap⟩ := h.form
  clear h hz
  obtain ⟨W1, HW1, b1, y1, hS1, rp, rb⟩ := Ke.l2 w #[.string p] 9 #[.slice none 0 0] 42
  refine callsIn_of_wp_marks Tryz.func21 rfl trivial ?_ rfl
  simp only [Tryz.ntmps21, List.size_toArray, List.length_cons, List.length_nil, Nat.reduceAdd, Nat.reduceSub, Array.replicate_succ, Array.replicate_zero, List.push_toArray, List.append_toArray, List.nil_append, List.cons_append]
  gi_wp2_with fail
  refine ⟨trivial, ?_⟩
  rw [HW1.out]
  refine (sought_in _ _ _ _ _ _ _ _).mono ?_
  rintro e W2 ⟨rfl, b2, y2, x1, x2⟩
  have B2 : Below w.heap.size w W2 := b1.trans (b2.mono b1.size)
  have rb2 : Boxed W2 (w.heap.size + 1) 42 (.slice none 0 0) := rowKeep rb.out b2
  have rp2 : Boxed W2 w.heap.size 9 (.string p) := rowKeep rp.out b2
  have hst := stops_path 5 (by omega) w W2 B2 _ l HS.out (by omega) p w.heap.size W1.heap.size b1.size x1 rp2 x2
  clear rb rp HW1 hS1 b2 x1 x2
  gi_wp2_with fail
  refine wpIn_rangeFunc_ownH rfl h1 (gf := 77) (lb := #[.pointer (some ⟨W1.heap.size, 0, none⟩), .pointer (some ⟨W1.heap.size + 1, 0, none⟩)]) rfl trivial (enters_of Tryz.func77 (by kernel_rfl) rfl)
    hst Ks_t (fun W l o o' h => Ks_b B2.size W l o o' h) (Below.refl _ _) (fun _ => rfl)
    (fun pre W => (Boxed W w.heap.size 9 (.string p) ∧ ∃ (ao : Option Addr) (L cap hi : Nat), Boxed W (w.heap.size + 1) 42 (.slice ao L cap) ∧ Ow W W2.heap.size hi (.slice ao L cap) (pre.map (fun x => x.1.n)) ∧ W2.heap.size ≤ hi ∧ hi ≤ W.heap.size) ∧ Below w.heap.size w W)
    (fun _ _ _ => False)
    (OwnFrom.and (Own.from (fun s A B row hs hg hr => by
      obtain ⟨hp, ao, L, cap, hi, hbx, hod, h2, hhi⟩ := hs
      exact ⟨boxed_own _ _ (fun _ => _) () A B row hp hg hr, ao, L, cap, hi, boxed_own _ _ (fun _ => _) () A B row hbx hg hr, On.turn hod hg hr, h2, Nat.le_trans hhi hg.size⟩) _) (ownFrom_below (Nat.le_refl _) B2.size))
    (fun _ => fun s A B row hs hg hr => hs)
    ⟨⟨rp2, none, 0, 0, W2.heap.size, rb2, On.nil 4 _ _ _ _, Nat.le_refl _, Nat.le_refl _⟩, B2⟩
    (fun x a' W => ∃ g, W2.heap.size ≤ g ∧ W.heap[g]? = some (.cells #[.string x.1.n.path, .int .i64 x.1.n.a, .int .i64 x.1.n.b, .int .i64 x.1.n.c, .string x.1.n.pre, x.1.u] 34 (0, 0)) ∧ a' = { tmps := #[.slice ao l.length cap, .string p, undef, .pointer (some ⟨w.heap.size, 0, none⟩), .slice none 0 0, .pointer (some ⟨w.heap.size + 1, 0, none⟩), .pointer (some ⟨g, 0, none⟩), .slice ao l.length cap, .func (.func 53) #[] #[.pointer (some ⟨w.heap.size, 0, none⟩)], .func (.func 77) #[] #[.pointer (some ⟨W1.heap.size, 0, none⟩), .pointer (some ⟨W1.heap.size + 1, 0, none⟩)], .agg #[.string x.1.n.path, .int .i64 x.1.n.a, .int .i64 x.1.n.b, .int .i64 x.1.n.c, .string x.1.n.pre, x.1.u], undef, undef, undef, undef, undef, undef, undef], defers := [] })
    (fun x a' => fun s A B row hs hg hr => by
      obtain ⟨g, hg1, hrow, ha⟩ := hs
      exact ⟨g, hg1, row_turn hrow hg (fun r e => (hr r e).2), ha⟩)
    ?assign ?body ?done ?stop
  case assign =>
    rintro lr pre ⟨⟨xn, xu, xl⟩, hm⟩ W K hI hK
    obtain ⟨⟨hp, a8, L8, c8, hi, hbx, hod, h2, hhi⟩, hB⟩ := hI
    obtain ⟨_, au, cu, hu, _⟩ := HS.out.2 _ hm
    have hu2 : xu = .slice au xl.length cu := hu
    subst hu2
    have hWs := hB.size
    have hk2 := hK { tmps := #[.slice ao l.length cap, .string p, undef, .pointer (some ⟨w.heap.size, 0, none⟩), .slice none 0 0, .pointer (some ⟨w.heap.size + 1, 0, none⟩), .pointer (some ⟨W.heap.size, 0, none⟩), .slice ao l.length cap, .func (.func 53) #[] #[.pointer (some ⟨w.heap.size, 0, none⟩)], .func (.func 77) #[] #[.pointer (some ⟨W1.heap.size, 0, none⟩), .pointer (some ⟨W1.heap.size + 1, 0, none⟩)], .agg #[.string xn.path, .int .i64 xn.a, .int .i64 xn.b, .int .i64 xn.c, .string xn.pre, .slice au xl.length cu], undef, undef, undef, undef, undef, undef, undef], defers := [] } (W.alloc (.cells #[.string xn.path, .int .i64 xn.a, .int .i64 xn.b, .int .i64 xn.c, .string xn.pre, .slice au xl.length cu] 34)) ((KeepsOthers.alloc _ _).from _) (Ks_below ((Below.refl _ _).alloc (Nat.le_refl _) _) hWs) ⟨⟨Boxed.alloc hp _, a8, L8, c8, hi, Boxed.alloc hbx _, On.later hod ((Below.refl _ _).alloc (Nat.le_refl _) _) hhi, h2, by simp; omega⟩, hB.alloc hWs _⟩ ⟨W.heap.size, by omega, heap_alloc_new W _, rfl⟩
    gi_wp2
    exact hk2
  case body =>
    rintro lr pre ⟨⟨xn, xu, xl⟩, hm⟩ a' W3 hlr hrec ⟨⟨hp, a8, L8, c8, hi9, hbx, hod, h29, hhi⟩, hB⟩ ⟨g, hg, rx, rfl⟩ hlt
    obtain ⟨f1, f2, f3, f4⟩ := HZ.out _ hm
    dsimp only at f2
    obtain ⟨ao9, L9, cap9, e9⟩ : ∃ ao9 L9 cap9, (Value.slice a8 L8 c8) = .slice ao9 L9 cap9 := ⟨_, _, _, rfl⟩
    clear e9 ao9 L9 cap9
    have B3 := Ke.h hB
    have r_bx3 : Hid (W3.heap[w.heap.size + 1]? = some (.cells #[.slice a8 L8 c8] 42 (0, 0))) := hbx
    have r_x3 : Hid (W3.heap[g]? = some (.cells #[.string xn.path, .int .i64 xn.a, .int .i64 xn.b, .int .i64 xn.c, .string xn.pre, xu] 34 (0, 0))) := rx
    have hpl : pre.length ≤ 1000000000 := by omega
    obtain ⟨T, hT, hTl⟩ : ∃ T : List Nd, pre.map (fun x : { x // x ∈ l } => x.1.n) = T ∧ T.length ≤ 1000000000 := ⟨_, rfl, by rw [List.length_map]; exact hpl⟩
    rw [hT] at hod
    have HT := Ke.h hT
    have f_d3 : Hid (Owt W3 W2.heap.size hi9 (.slice a8 L8 c8) T) := ⟨hod, hhi⟩
    clear hT
    have f_K3 : Hid (Kz9 w.heap.size [w.heap.size, W1.heap.size, W1.heap.size + 1] W3 W3) := Kz9.refl hB.size
    have HP : Hid (Boxed W3 w.heap.size 9 (.string p)) := hp
    have k1 : T.length + 1 ≤ maxLen := by unfold maxLen; omega
    have k2 : (T.length + 1) * 40 ≤ 140737488355328 := by omega
    have hB2s := B2.size
    have hB3s := hB.size
    clear hp hbx hod hB rx
    have c_bx3 := Ke.c r_bx3
    have c_x3 := Ke.c r_x3
    gi_wp2_with fail
    refine region_round (S := fun w' => (∀ j, w'.cell? ⟨g, j, none⟩ = #[.string xn.path, .int .i64 xn.a, .int .i64 xn.b, .int .i64 xn.c, .string xn.pre, xu][j]?)) (by kernel_rfl) (by kernel_rfl) (by rintro ⟨_, _, h9⟩; exact h9) c_x3 (fun hHeld => ?_)
    obtain ⟨W4, HW4, b4⟩ : ∃ X, Hid (W3.drew = X) ∧ Below W3.heap.size W3 X := ⟨_, rfl, Below.drew (Below.refl _ _)⟩
    have HHW4 := HW4.out
    rw [HHW4] at hHeld ⊢
    clear HHW4
    have z4 := b4.size
    have B4 := Ke.b B3 b4
    have r_bx4 := Ke.r r_bx3 b4
    have r_x4 := Ke.r r_x3 b4
    have c_bx4 := Ke.c r_bx4
    have c_x4 := Ke.c r_x4
    clear r_bx3 c_bx3 r_x3 c_x3
    have f_d4 : Hid (Owt W4 W2.heap.size hi9 (.slice a8 L8 c8) T) := Owt.later f_d3.out b4
    have f_K4 : Hid (Kz9 w.heap.size [w.heap.size, W1.heap.size, W1.heap.size + 1] W3 W4) := Kz9.later f_K3.out b4
    clear f_d3 f_K3
    refine Ke.y 1 rfl (fun _ _ _ h => h) ?_
    try simp only [Act.put, pu1, pu2, pu3, pu4, pu5, pu6]
    refine Ke.y 2 rfl (fun _ _ _ h => h) ?_
    try simp only [Act.put, pu1, pu2, pu3, pu4, pu5, pu6]
    refine wpAnyH_ready (rs := [0, 3]) (by kernel_rfl) (by simp) ?_
    refine AllReadyH.cons rfl (fun K hK => ?_) (AllReadyH.cons rfl (fun K hK => ?_) AllReadyH.nil)
    · go_simp
      refine hK.out _ _ hHeld (fun hHeld => ?_)
      clear hK K
      try simp only [Act.put, pu1, pu2, pu3, pu4, pu5, pu6]
      refine Ke.z 3 rfl (fun K hK => ?_)
      go_simp
      refine (ownv_impl W4 xn f2).mono ?_
      rintro e W5 ⟨rfl, b5⟩
      refine hK.out _ _ (Ke.k (W := W4) hHeld b5) (fun hHeld => ?_)
      clear hK K
      try simp only [Act.put, pu1, pu2, pu3, pu4, pu5, pu6]
      have z5 := b5.size
      have B5 := Ke.b B4 b5
      have r_bx5 := Ke.r r_bx4 b5
      have r_x5 := Ke.r r_x4 b5
      have c_bx5 := Ke.c r_bx5
      have c_x5 := Ke.c r_x5
      clear r_bx4 c_bx4 r_x4 c_x4
      have f_d5 : Hid (Owt W5 W2.heap.size hi9 (.slice a8 L8 c8) T) := Owt.later f_d4.out b5
      have f_K5 : Hid (Kz9 w.heap.size [w.heap.size, W1.heap.size, W1.heap.size + 1] W3 W5) := Kz9.later f_K4.out b5
      clear f_d4 f_K4
      refine Ke.z 4 rfl (fun K hK => ?_)
      go_simp
      refine hK.out _ _ (Ke.k (W := W5) hHeld ((Below.refl _ _).alloc (Nat.le_refl _) _)) (fun hHeld => ?_)
      clear hK K
      try simp only [Act.put, pu1, pu2, pu3, pu4, pu5, pu6]
      obtain ⟨W6, HW6, b6, ff6⟩ : ∃ X, Hid ((W5.alloc (.cells #[.int .i64 xn.a, .int .i64 xn.b, .int .i64 xn.c, .string xn.pre] 32)) = X) ∧ Below W5.heap.size W5 X ∧ Hid (Sn 4 X (.slice (some ⟨W5.heap.size, 0, none⟩) 1 1) 1 (vc xn).toList) := ⟨_, rfl, ((Below.refl _ _).alloc (Nat.le_refl _) _), Sn.one 4 W5 (vc xn) 32 rfl⟩
      have HHW6 := HW6.out
      rw [HHW6] at hHeld ⊢
      clear HHW6
      have z6 := b6.size
      have B6 := Ke.b B5 b6
      have r_bx6 := Ke.r r_bx5 b6
      have r_x6 := Ke.r r_x5 b6
      have c_bx6 := Ke.c r_bx6
      have c_x6 := Ke.c r_x6
      clear r_bx5 c_bx5 r_x5 c_x5
      have f_d6 : Hid (Owt W6 W2.heap.size hi9 (.slice a8 L8 c8) T) := Owt.later f_d5.out b6
      have f_K6 : Hid (Kz9 w.heap.size [w.heap.size, W1.heap.size, W1.heap.size + 1] W3 W6) := Kz9.later f_K5.out b6
      clear f_d5 f_K5
      have f_t6 : Hid (Sn 4 W6 (.slice (some ⟨W5.heap.size, 0, none⟩) 1 1) 1 (vc xn).toList) := ff6.out
      clear ff6
      refine Ke.z 5 rfl (fun K hK => ?_)
      refine step_appm 4 (by omega) rfl (.tmp 11) (.tmp 15) 42 (by rfl) 32 i0 (.agg #[.int .i64 0, .int .i64 0, .int .i64 0, .string ⟨#[]⟩]) 40 Tryz.underlying42 hi hz0 hz1 hz2 rfl W2.heap.size _ T.length (vcs T) (by rfl) (Owt.wide f_d6.out (Nat.le_refl _)) _ (by rfl) 1 (vc xn).toList f_t6.out (vc_one xn) k1 k2 (by omega) ?_
      intro v9 W7 o9 g7
      refine hK.out _ _ (Ke.g hHeld g7 (On.neRow f_d6.out.1 r_x6.out (by decide))) (fun hHeld => ?_)
      clear hK K
      try simp only [Act.put, pu1, pu2, pu3, pu4, pu5, pu6]
      have f_d7 : Hid (Owt W7 W2.heap.size W7.heap.size v9 (T ++ [xn])) := ⟨snocW o9, Nat.le_refl _⟩
      clear o9
      have z7 := g7.size
      have B7 : Hid (Below w.heap.size w W7) := belowGro B6.out g7 B6.out.size (fun k9 h9 => by have h8 := (On.lt f_d6.out.1 h9).1; omega)
      have f_K7 : Hid (Kz9 w.heap.size [w.heap.size, W1.heap.size, W1.heap.size + 1] W3 W7) := Kz9.own f_K6.out f_d6.out.1 g7 (by omega) (by intro b9 hb9; simp only [List.mem_cons, List.not_mem_nil, or_false] at hb9; omega)
      have r_bx7 : Hid (W7.heap[w.heap.size + 1]? = some (.cells #[.slice a8 L8 c8] 42 (0, 0))) := rowGro r_bx6.out g7 (On.neRow f_d6.out.1 r_bx6.out (by decide))
      obtain ⟨ao9, L9, cap9, rfl⟩ : ∃ ao9 L9 cap9, v9 = .slice ao9 L9 cap9 := by obtain ⟨a9, c9, e9⟩ := On.slice f_d7.out.1; exact ⟨a9, _, c9, e9⟩
      have c_bx7 := Ke.c r_bx7
      clear r_bx6 c_bx6
      clear f_d6 f_t6 f_K6 g7 r_x6 c_x6
      refine Ke.z 6 rfl (fun K hK => ?_)
      rw [if_pos (by rfl)]
      refine wp_oneG 42 _ _ rfl (w.heap.size + 1) 0 (.slice ao9 L9 cap9) rfl rfl [.slice a8 L8 c8] 42 r_bx7.out (Nat.le_of_ble_eq_true rfl) (by kernel_rfl) rfl [.slice ao9 L9 cap9] rfl ?_
      intro W8 r_bx8 g8
      refine hK.out _ _ (Ke.g hHeld g8 (by intro h9; injection h9 with h9; omega)) (fun hHeld => ?_)
      clear hK K
      try simp only [Act.put, pu1, pu2, pu3, pu4, pu5, pu6]
      have zz := g8.size
      have HB9 := Ke.h (belowGro B7.out g8 B7.out.size (fun k9 h9 => by injection h9 with h9; omega))
      have HK9 := Ke.h (Kz9.row f_K7.out r_bx7.out g8 (by omega) (by intro b9 hb9; simp only [List.mem_cons, List.not_mem_nil, or_false] at hb9; omega))
      have HD9 := Ke.h (On.keep1 f_d7.out.1 (fun j hj => g8.block j (On.lt f_d7.out.1 hj).2.2 (fun e9 => On.neRow f_d7.out.1 r_bx7.out (by decide) (hj.trans e9))))
      have HR9 := Ke.h r_bx8
      have HP9 := Ke.h (HK9.out.2.2.2 w.heap.size (by simp) _ _ HP.out)
      refine wpAnyH_done (by kernel_rfl) ?_ _
      clear hHeld
      gi_wp2
      exact ⟨HK9.out.2.1.from _, HK9.out.2.2, ⟨HP9.out, ao9, L9, cap9, _, HR9.out, by rw [List.map_append, HT.out]; exact HD9.out, by omega, by omega⟩, HB9.out⟩
    · go_simp
      refine (ownv_impl W4 xn f2).mono ?_
      rintro e W5 ⟨rfl, b5⟩
      refine hK.out _ _ (Ke.k (W := W4) hHeld b5) (fun hHeld => ?_)
      clear hK K
      try simp only [Act.put, pu1, pu2, pu3, pu4, pu5, pu6]
      have z5 := b5.size
      have B5 := Ke.b B4 b5
      have r_bx5 := Ke.r r_bx4 b5
      have r_x5 := Ke.r r_x4 b5
      have c_bx5 := Ke.c r_bx5
      have c_x5 := Ke.c r_x5
      clear r_bx4 c_bx4 r_x4 c_x4
      have f_d5 : Hid (Owt W5 W2.heap.size hi9 (.slice a8 L8 c8) T) := Owt.later f_d4.out b5
      have f_K5 : Hid (Kz9 w.heap.size [w.heap.size, W1.heap.size, W1.heap.size + 1] W3 W5) := Kz9.later f_K4.out b5
      clear f_d4 f_K4
      refine wpAnyH_ready (rs := [0, 4]) (by kernel_rfl) (by simp) ?_
      refine AllReadyH.cons rfl (fun K hK => ?_) (AllReadyH.cons rfl (fun K hK => ?_) AllReadyH.nil)
      · go_simp
        refine hK.out _ _ hHeld (fun hHeld => ?_)
        clear hK K
        try simp only [Act.put, pu1, pu2, pu3, pu4, pu5, pu6]
        refine Ke.z 4 rfl (fun K hK => ?_)
        go_simp
        refine hK.out _ _ (Ke.k (W := W5) hHeld ((Below.refl _ _).alloc (Nat.le_refl _) _)) (fun hHeld => ?_)
        clear hK K
        try simp only [Act.put, pu1, pu2, pu3, pu4, pu5, pu6]
        obtain ⟨W6, HW6, b6, ff6⟩ : ∃ X, Hid ((W5.alloc (.cells #[.int .i64 xn.a, .int .i64 xn.b, .int .i64 xn.c, .string xn.pre] 32)) = X) ∧ Below W5.heap.size W5 X ∧ Hid (Sn 4 X (.slice (some ⟨W5.heap.size, 0, none⟩) 1 1) 1 (vc xn).toList) := ⟨_, rfl, ((Below.refl _ _).alloc (Nat.le_refl _) _), Sn.one 4 W5 (vc xn) 32 rfl⟩
        have HHW6 := HW6.out
        rw [HHW6] at hHeld ⊢
        clear HHW6
        have z6 := b6.size
        have B6 := Ke.b B5 b6
        have r_bx6 := Ke.r r_bx5 b6
        have r_x6 := Ke.r r_x5 b6
        have c_bx6 := Ke.c r_bx6
        have c_x6 := Ke.c r_x6
        clear r_bx5 c_bx5 r_x5 c_x5
        have f_d6 : Hid (Owt W6 W2.heap.size hi9 (.slice a8 L8 c8) T) := Owt.later f_d5.out b6
        have f_K6 : Hid (Kz9 w.heap.size [w.heap.size, W1.heap.size, W1.heap.size + 1] W3 W6) := Kz9.later f_K5.out b6
        clear f_d5 f_K5
        have f_t6 : Hid (Sn 4 W6 (.slice (some ⟨W5.heap.size, 0, none⟩) 1 1) 1 (vc xn).toList) := ff6.out
        clear ff6
        refine Ke.z 5 rfl (fun K hK => ?_)
        refine step_appm 4 (by omega) rfl (.tmp 11) (.tmp 15) 42 (by rfl) 32 i0 (.agg #[.int .i64 0, .int .i64 0, .int .i64 0, .string ⟨#[]⟩]) 40 Tryz.underlying42 hi hz0 hz1 hz2 rfl W2.heap.size _ T.length (vcs T) (by rfl) (Owt.wide f_d6.out (Nat.le_refl _)) _ (by rfl) 1 (vc xn).toList f_t6.out (vc_one xn) k1 k2 (by omega) ?_
        intro v9 W7 o9 g7
        refine hK.out _ _ (Ke.g hHeld g7 (On.neRow f_d6.out.1 r_x6.out (by decide))) (fun hHeld => ?_)
        clear hK K
        try simp only [Act.put, pu1, pu2, pu3, pu4, pu5, pu6]
        have f_d7 : Hid (Owt W7 W2.heap.size W7.heap.size v9 (T ++ [xn])) := ⟨snocW o9, Nat.le_refl _⟩
        clear o9
        have z7 := g7.size
        have B7 : Hid (Below w.heap.size w W7) := belowGro B6.out g7 B6.out.size (fun k9 h9 => by have h8 := (On.lt f_d6.out.1 h9).1; omega)
        have f_K7 : Hid (Kz9 w.heap.size [w.heap.size, W1.heap.size, W1.heap.size + 1] W3 W7) := Kz9.own f_K6.out f_d6.out.1 g7 (by omega) (by intro b9 hb9; simp only [List.mem_cons, List.not_mem_nil, or_false] at hb9; omega)
        have r_bx7 : Hid (W7.heap[w.heap.size + 1]? = some (.cells #[.slice a8 L8 c8] 42 (0, 0))) := rowGro r_bx6.out g7 (On.neRow f_d6.out.1 r_bx6.out (by decide))
        obtain ⟨ao9, L9, cap9, rfl⟩ : ∃ ao9 L9 cap9, v9 = .slice ao9 L9 cap9 := by obtain ⟨a9, c9, e9⟩ := On.slice f_d7.out.1; exact ⟨a9, _, c9, e9⟩
        have c_bx7 := Ke.c r_bx7
        clear r_bx6 c_bx6
        clear f_d6 f_t6 f_K6 g7 r_x6 c_x6
        refine Ke.z 6 rfl (fun K hK => ?_)
        rw [if_pos (by rfl)]
        refine wp_oneG 42 _ _ rfl (w.heap.size + 1) 0 (.slice ao9 L9 cap9) rfl rfl [.slice a8 L8 c8] 42 r_bx7.out (Nat.le_of_ble_eq_true rfl) (by kernel_rfl) rfl [.slice ao9 L9 cap9] rfl ?_
        intro W8 r_bx8 g8
        refine hK.out _ _ (Ke.g hHeld g8 (by intro h9; injection h9 with h9; omega)) (fun hHeld => ?_)
        clear hK K
        try simp only [Act.put, pu1, pu2, pu3, pu4, pu5, pu6]
        have zz := g8.size
        have HB9 := Ke.h (belowGro B7.out g8 B7.out.size (fun k9 h9 => by injection h9 with h9; omega))
        have HK9 := Ke.h (Kz9.row f_K7.out r_bx7.out g8 (by omega) (by intro b9 hb9; simp only [List.mem_cons, List.not_mem_nil, or_false] at hb9; omega))
        have HD9 := Ke.h (On.keep1 f_d7.out.1 (fun j hj => g8.block j (On.lt f_d7.out.1 hj).2.2 (fun e9 => On.neRow f_d7.out.1 r_bx7.out (by decide) (hj.trans e9))))
        have HR9 := Ke.h r_bx8
        have HP9 := Ke.h (HK9.out.2.2.2 w.heap.size (by simp) _ _ HP.out)
        refine wpAnyH_done (by kernel_rfl) ?_ _
        clear hHeld
        gi_wp2
        exact ⟨HK9.out.2.1.from _, HK9.out.2.2, ⟨HP9.out, ao9, L9, cap9, _, HR9.out, by rw [List.map_append, HT.out]; exact HD9.out, by omega, by omega⟩, HB9.out⟩
      · go_simp
        refine hK.out _ _ (Ke.k (W := W5) hHeld ((Below.refl _ _).alloc (Nat.le_refl _) _)) (fun hHeld => ?_)
        clear hK K
        try simp only [Act.put, pu1, pu2, pu3, pu4, pu5, pu6]
        obtain ⟨W6, HW6, b6, ff6⟩ : ∃ X, Hid ((W5.alloc (.cells #[.int .i64 xn.a, .int .i64 xn.b, .int .i64 xn.c, .string xn.pre] 32)) = X) ∧ Below W5.heap.size W5 X ∧ Hid (Sn 4 X (.slice (some ⟨W5.heap.size, 0, none⟩) 1 1) 1 (vc xn).toList) := ⟨_, rfl, ((Below.refl _ _).alloc (Nat.le_refl _) _), Sn.one 4 W5 (vc xn) 32 rfl⟩
        have HHW6 := HW6.out
        rw [HHW6] at hHeld ⊢
        clear HHW6
        have z6 := b6.size
        have B6 := Ke.b B5 b6
        have r_bx6 := Ke.r r_bx5 b6
        have r_x6 := Ke.r r_x5 b6
        have c_bx6 := Ke.c r_bx6
        have c_x6 := Ke.c r_x6
        clear r_bx5 c_bx5 r_x5 c_x5
        have f_d6 : Hid (Owt W6 W2.heap.size hi9 (.slice a8 L8 c8) T) := Owt.later f_d5.out b6
        have f_K6 : Hid (Kz9 w.heap.size [w.heap.size, W1.heap.size, W1.heap.size + 1] W3 W6) := Kz9.later f_K5.out b6
        clear f_d5 f_K5
        have f_t6 : Hid (Sn 4 W6 (.slice (some ⟨W5.heap.size, 0, none⟩) 1 1) 1 (vc xn).toList) := ff6.out
        clear ff6
        refine Ke.z 0 rfl (fun K hK => ?_)
        go_simp
        refine hK.out _ _ hHeld (fun hHeld => ?_)
        clear hK K
        try simp only [Act.put, pu1, pu2, pu3, pu4, pu5, pu6]
        refine Ke.z 5 rfl (fun K hK => ?_)
        refine step_appm 4 (by omega) rfl (.tmp 11) (.tmp 15) 42 (by rfl) 32 i0 (.agg #[.int .i64 0, .int .i64 0, .int .i64 0, .string ⟨#[]⟩]) 40 Tryz.underlying42 hi hz0 hz1 hz2 rfl W2.heap.size _ T.length (vcs T) (by rfl) (Owt.wide f_d6.out (Nat.le_refl _)) _ (by rfl) 1 (vc xn).toList f_t6.out (vc_one xn) k1 k2 (by omega) ?_
        intro v9 W7 o9 g7
        refine hK.out _ _ (Ke.g hHeld g7 (On.neRow f_d6.out.1 r_x6.out (by decide))) (fun hHeld => ?_)
        clear hK K
        try simp only [Act.put, pu1, pu2, pu3, pu4, pu5, pu6]
        have f_d7 : Hid (Owt W7 W2.heap.size W7.heap.size v9 (T ++ [xn])) := ⟨snocW o9, Nat.le_refl _⟩
        clear o9
        have z7 := g7.size
        have B7 : Hid (Below w.heap.size w W7) := belowGro B6.out g7 B6.out.size (fun k9 h9 => by have h8 := (On.lt f_d6.out.1 h9).1; omega)
        have f_K7 : Hid (Kz9 w.heap.size [w.heap.size, W1.heap.size, W1.heap.size + 1] W3 W7) := Kz9.own f_K6.out f_d6.out.1 g7 (by omega) (by intro b9 hb9; simp only [List.mem_cons, List.not_mem_nil, or_false] at hb9; omega)
        have r_bx7 : Hid (W7.heap[w.heap.size + 1]? = some (.cells #[.slice a8 L8 c8] 42 (0, 0))) := rowGro r_bx6.out g7 (On.neRow f_d6.out.1 r_bx6.out (by decide))
        obtain ⟨ao9, L9, cap9, rfl⟩ : ∃ ao9 L9 cap9, v9 = .slice ao9 L9 cap9 := by obtain ⟨a9, c9, e9⟩ := On.slice f_d7.out.1; exact ⟨a9, _, c9, e9⟩
        have c_bx7 := Ke.c r_bx7
        clear r_bx6 c_bx6
        clear f_d6 f_t6 f_K6 g7 r_x6 c_x6
        refine Ke.z 6 rfl (fun K hK => ?_)
        rw [if_pos (by rfl)]
        refine wp_oneG 42 _ _ rfl (w.heap.size + 1) 0 (.slice ao9 L9 cap9) rfl rfl [.slice a8 L8 c8] 42 r_bx7.out (Nat.le_of_ble_eq_true rfl) (by kernel_rfl) rfl [.slice ao9 L9 cap9] rfl ?_
        intro W8 r_bx8 g8
        refine hK.out _ _ (Ke.g hHeld g8 (by intro h9; injection h9 with h9; omega)) (fun hHeld => ?_)
        clear hK K
        try simp only [Act.put, pu1, pu2, pu3, pu4, pu5, pu6]
        have zz := g8.size
        have HB9 := Ke.h (belowGro B7.out g8 B7.out.size (fun k9 h9 => by injection h9 with h9; omega))
        have HK9 := Ke.h (Kz9.row f_K7.out r_bx7.out g8 (by omega) (by intro b9 hb9; simp only [List.mem_cons, List.not_mem_nil, or_false] at hb9; omega))
        have HD9 := Ke.h (On.keep1 f_d7.out.1 (fun j hj => g8.block j (On.lt f_d7.out.1 hj).2.2 (fun e9 => On.neRow f_d7.out.1 r_bx7.out (by decide) (hj.trans e9))))
        have HR9 := Ke.h r_bx8
        have HP9 := Ke.h (HK9.out.2.2.2 w.heap.size (by simp) _ _ HP.out)
        refine wpAnyH_done (by kernel_rfl) ?_ _
        clear hHeld
        gi_wp2
        exact ⟨HK9.out.2.1.from _, HK9.out.2.2, ⟨HP9.out, ao9, L9, cap9, _, HR9.out, by rw [List.map_append, HT.out]; exact HD9.out, by omega, by omega⟩, HB9.out⟩
  case done =>
    rintro D ys W hD hy ⟨⟨hp, a8, L8, c8, hi9, hbx, hod, h29, hhi⟩, hB⟩ hK
    have hV : Hid (ys.map (fun x => x.1.n) = vers15 p (l.map Ev.n)) := by
      show _ = _
      have h9 := congrArg (List.map Ev.n) hy
      rw [List.map_map] at h9
      unfold vers15
      rw [List.filter_map]
      exact h9
    have k0 := hbx.cell
    gi_wp2
    refine ⟨by simp, .inl ⟨_, _, rfl, run_takeDeferred hK, ?_⟩⟩
    have gr := grownBy_putObj' W D (.deferred none)
    have hgr : ∀ r, some D = some r → ∃ o : Obj, W.heap[r]? = some o ∧ o.isCells = false := fun r e => by cases e; exact ⟨_, hK, rfl⟩
    have o6 := On.turn hod gr hgr
    have B6 : Below w.heap.size w (W.putObj D (.deferred none)) := hB.trans (belowK_b (w := w) (Nat.le_refl _) W D _ _ (by have := B2.size; omega) hK rfl rfl)
    exact ⟨_, results_tmp rfl _ _ _, _, rfl, by rw [← hV.out]; exact On.mono o6 B2.size (Nat.le_trans hhi gr.size), B6⟩
  case stop =>
    rintro D c pre W hD hpre h9 hK
    exact h9.elim

theorem versions_impl (w : World) (v : Value) (l : List Ev) (p : ByteArray) (h : Se w v l) (hl : l.length ≤ 1000000000) (hz : ∀ x ∈ l, Fit9 x) :
    Calls Tryz.prog 21 #[v, .string p] w fun e w' => ∃ v', e = .returned v' ∧ Ow w' w.heap.size w'.heap.size v' (vers15 p (l.map Ev.n)) ∧ Below w.heap.size w w' := callsIn_wide.1 (versions_in w v l p h hl hz)

end Go.Proofs.YtlhmemnaiobgkaaGreatDoor.Fe
