/- Texts in one: SeL. -/
import Derived.Test.YtlhmemnaiobgkaaPk29
import Derived.Test.YtlhmemnaiobgkaaPk21
import Derived.Deep.DeepCutAuto
/- Chapter 16: FnCovered, over contracts of the landed functions. -/
namespace Go.Proofs.Ytlhmemnaiobgkaa.Se
open Go.RowKit Go.Proofs.Ytlhmemnaiobgkaa.Mem Go.Proofs.Ytlhmemnaiobgkaa.Laws Go.Proofs.Ytlhmemnaiobgkaa.Bytes Go.Proofs.Ytlhmemnaiobgkaa.Ver Go.Proofs.Ytlhmemnaiobgkaa.Ent Go.Proofs.Ytlhmemnaiobgkaa.Fe Go.Proofs.Ytlhmemnaiobgkaa.Draw
set_option linter.unusedVariables false
set_option linter.unusedSimpArgs false

def bmp (q : Nd) : Nd := ⟨q.path, (bump q.a q.b q.c q.pre 2).1, (bump q.a q.b q.c q.pre 2).2.1, (bump q.a q.b q.c q.pre 2).2.2.1, (bump q.a q.b q.c q.pre 2).2.2.2⟩
theorem okV_dn {n : Nd} (h : Dn n) : okV n.a n.b n.c n.pre = true := by
  have h1 : fits4 n.path n.a n.b n.c n.pre = true := h.2.1
  unfold fits4 at h1
  rw [Bool.and_eq_true, Bool.and_eq_true] at h1
  exact h1.1.2
theorem bmp_ok {q : Nd} (h : Dnc q) : okV q.a q.b (q.c + 1) ⟨#[]⟩ = true := by
  have h1 := okV_dn h.1
  have h2 := h.2
  unfold okV inM at h1 ⊢
  simp only [Bool.and_eq_true, Bool.or_eq_true, decide_eq_true_eq] at h1 ⊢
  refine ⟨⟨h1.1.1, ?_⟩, .inl rfl⟩
  have := h1.1.2
  omega
theorem bmp_eq {q : Nd} (h : Dnc q) : bmp q = ⟨q.path, q.a, q.b, q.c + 1, ⟨#[]⟩⟩ := by
  unfold bmp bump
  rw [if_pos (okV_dn h.1), if_neg (by decide), if_neg (by decide), if_pos rfl, if_pos (bmp_ok h)]
theorem bmp_dn {q : Nd} (h : Dnc q) : Dq (bmp q) := by
  rw [bmp_eq h]
  obtain ⟨h1, h2, h3⟩ := h.1
  refine ⟨h1, ?_, by unfold preL; exact List.mem_cons_self ..⟩
  show fits4 q.path q.a q.b (q.c + 1) ⟨#[]⟩ = true
  have h4 : fits4 q.path q.a q.b q.c q.pre = true := h2
  have h5 := bmp_ok h
  unfold fits4 at h4 ⊢
  rw [Bool.and_eq_true, Bool.and_eq_true] at h4 ⊢
  exact ⟨⟨h4.1.1, h5⟩, h4.2⟩
theorem bmp_less {q : Nd} (h : Dnc q) : lv q (bmp q) = true ∧ lv (bmp q) q = false := by
  have h1 := (bmp_dn h).2.2
  have h2 := h.1.2.2
  rw [lv_D h2 h1, lv_D h1 h2, bmp_eq h]
  simp only [decide_eq_true_eq, decide_eq_false_iff_not]
  generalize rank q.pre = r1
  generalize rank ⟨#[]⟩ = r2
  constructor
  · exact .inr ⟨trivial, .inr ⟨trivial, .inl (by omega)⟩⟩
  · rintro (h | ⟨_, h | ⟨_, h | ⟨h, _⟩⟩⟩) <;> omega
theorem covers_self {R : List Nd} (h : ∀ n ∈ R, Dq n) : covers16 R R = true := by
  rw [covers_iff]
  exact fun n hn => ⟨n, hn, rfl, lin_pre.irr (h n hn).2.2⟩
theorem covers_up {R : List Nd} {i : Nat} {q : Nd} (hR : DnsC R) (hq : R[i]? = some q) : covers16 R (R.set i (bmp q)) = false := by
  have hqm := List.mem_of_getElem? hq
  have hil : i < R.length := (List.getElem?_eq_some_iff.1 hq).1
  cases hc : covers16 R (R.set i (bmp q)) with
  | false => rfl
  | true =>
    obtain ⟨x, hx, h1, h2⟩ := covers_iff.1 hc (bmp q) (List.mem_iff_getElem?.2 ⟨i, by rw [List.getElem?_set, if_pos rfl, if_pos hil]⟩)
    have := hR.up.one hx hqm h1
    subst this
    rw [(bmp_less (hR.all x hx)).1] at h2
    cases h2
theorem up_covers {R : List Nd} {i : Nat} {q : Nd} (hR : DnsC R) (hq : R[i]? = some q) : covers16 (R.set i (bmp q)) R = true := by
  have hqm := List.mem_of_getElem? hq
  have hil : i < R.length := (List.getElem?_eq_some_iff.1 hq).1
  rw [covers_iff]
  intro n hn
  obtain ⟨j, hj⟩ := List.mem_iff_getElem?.1 hn
  by_cases hij : i = j
  · subst hij
    rw [hq] at hj
    simp only [Option.some.injEq] at hj
    subst hj
    exact ⟨bmp q, List.mem_iff_getElem?.2 ⟨i, by rw [List.getElem?_set, if_pos rfl, if_pos hil]⟩, rfl, (bmp_less (hR.all q hqm)).2⟩
  · exact ⟨n, List.mem_iff_getElem?.2 ⟨j, by rw [List.getElem?_set, if_neg hij]; exact hj⟩, rfl, lin_pre.irr (hR.all n hn).1.2.2⟩
theorem up_dq {R : List Nd} {i : Nat} {q : Nd} (hR : DnsC R) (hq : R[i]? = some q) : ∀ n ∈ R.set i (bmp q), Dq n := fun n hn => by
  rcases List.mem_or_eq_of_mem_set hn with h9 | rfl
  · exact hR.dq n h9
  · exact bmp_dn (hR.all q (List.mem_of_getElem? hq))
theorem bmp_put (q : Nd) : putL q.cs 1 [.int .i64 (bmp q).a, .int .i64 (bmp q).b, .int .i64 (bmp q).c, .string (bmp q).pre] = (bmp q).cs := rfl

set_option maxRecDepth 1000000 in
set_option maxHeartbeats 8000000 in
theorem covered_law (w : World) (vb : Value) (xs : List Int) (hs : Sl w vb (bs xs)) (hby : Byt xs) (hx : xs.length ≤ maxLen)
    (iK : ∀ W v u s t, Below w.heap.size w W → Sd W v s → Sd W u t → s.length ≤ 60 → (∀ n ∈ s, Dq n) → t.length ≤ 60 → (∀ n ∈ t, Dq n) → Calls Try.prog 7 #[v, u] W fun e w' => e = .returned (.bool (covers16 s t)) ∧ Below W.heap.size W w')
    (iB : ∀ W q, Dq q → Calls Try.prog 9 #[.agg #[.int .i64 q.a, .int .i64 q.b, .int .i64 q.c, .string q.pre], .int .i64 2] W fun e w' => e = .returned (.agg #[.int .i64 (bmp q).a, .int .i64 (bmp q).b, .int .i64 (bmp q).c, .string (bmp q).pre]) ∧ Below W.heap.size W w') :
    Calls Try.prog 3 #[vb] w fun e w' => e = .returned (.bool true) ∧ Below w.heap.size w w' := by
  obtain ⟨i0, hi, hz0, hz1, hz2⟩ := info_parts infoN
  have HSL : Hid (Sl w vb (bs xs)) := hs
  unfold maxLen at hx
  obtain ⟨ao0, cap0, rfl, hc0⟩ := hs.form
  rw [bs_len] at *
  clear hs
  by_cases hbig : 1048576 < xs.length
  · go_enter Try.func3, Try.ntmps3
    go_wp2_with (go_at_call 5; refine (big_yes _ _ _ _ hbig).mono ?_; rintro e w1 ⟨rfl, rfl⟩)
    go_ret
    exact ⟨rfl, Below.refl _ _⟩
  have qd := drawCovers_any w _ xs HSL.out hby (by omega)
  go_enter Try.func3, Try.ntmps3
  go_wp2_with fail
  refine (big_no _ _ _ _ hbig).mono ?_
  rintro e w_ ⟨rfl, hw_⟩
  subst hw_
  go_wp2_with fail
  refine qd.mono ?_
  unfold DcP
  rintro e W1 ⟨v1, v2, R, s, rfl, hR3, hs3, hRD, hsq, hsd1, hsd2, b1⟩
  have HR := Ke.h hRD
  have HQ := Ke.h hsq
  have HSR : Hid (Sd W1 v1 R) := hsd1
  have HSS : Hid (Sd W1 v2 s) := hsd2
  have B1 : Hid (Below w.heap.size w W1) := b1
  obtain ⟨_, ao1, cap1, rfl, hcap1, _, _⟩ := hsd1
  obtain ⟨_, ao2, cap2, rfl, hcap2, _, _⟩ := hsd2
  clear hRD hsq b1 qd
  obtain ⟨C, hC⟩ : ∃ C, covers16 R s = C := ⟨_, rfl⟩
  have nc : (C != C) = false := by simp
  have q1 := iK W1 _ _ R s B1.out HSR.out HSS.out (by omega) HR.out.dq (by omega) HQ.out
  rw [hC] at q1
  go_wp2_with fail
  refine q1.mono ?_
  rintro e W2 ⟨rfl, b2⟩
  clear q1
  have D2 : Hid (Below W1.heap.size W1 W2) := b2
  have q2 := covers_spec W2 _ _ R s (HSR.out.later D2.out) (HSS.out.later D2.out) (by omega) (by omega) (fun x hx => by have := Dn.size (HR.out.dq x hx); omega) (fun x hx => by have := Dn.size (HQ.out x hx); omega)
  rw [hC] at q2
  go_wp2_with fail
  refine q2.mono ?_
  rintro e W3 ⟨rfl, b3⟩
  clear q2 hC
  have D3 : Hid (Below W1.heap.size W1 W3) := D2.out.trans (b3.mono D2.out.size)
  clear b2 b3
  have q3 := iK W3 _ _ R R (B1.out.trans (D3.out.mono B1.out.size)) (HSR.out.later D3.out) (HSR.out.later D3.out) (by omega) HR.out.dq (by omega) HR.out.dq
  rw [covers_self HR.out.dq] at q3
  go_wp2_with fail
  refine q3.mono ?_
  rintro e W4 ⟨rfl, b4⟩
  clear q3
  have D4 : Hid (Below W1.heap.size W1 W4) := D3.out.trans (b4.mono D3.out.size)
  clear b4
  obtain ⟨W5, HW5, b5, y5, hS5, r5⟩ := Ke.l1 W4 #[] 32
  have D5 := Ke.b D4 b5
  have HE0 : Sd W5 (.slice (some ⟨W4.heap.size, 0, none⟩) 0 0) [] := ⟨rfl, _, 0, rfl, Nat.le_refl _, fun h => by simp at h, fun h => by simp at h⟩
  have q5 := iK W5 (.slice ao1 R.length cap1) (.slice (some ⟨W4.heap.size, 0, none⟩) 0 0) R [] (B1.out.trans (D5.out.mono B1.out.size)) (HSR.out.later D5.out) HE0 (by omega) HR.out.dq (by simp) (fun n hn => (List.not_mem_nil hn).elim)
  have e5 : covers16 R [] = true := rfl
  rw [e5, ← HW5.out] at q5
  go_wp2_with fail
  refine q5.mono ?_
  rintro e W6 ⟨rfl, b6⟩
  rw [HW5.out] at b6
  clear q5 e5
  have D6 := Ke.b D5 b6
  clear b5 b6 HW5 y5 hS5 r5
  go_wp2_with fail
  go_loopw [5] (fun iv wr => ∃ i : Nat, i ≤ R.length ∧ iv = .int .i64 (i : Int) ∧ Hid (Below W1.heap.size W1 wr)) (fun iv _ => R.length - (intOf iv).toNat)
  case atStart => exact ⟨0, Nat.zero_le _, rfl, D6⟩
  case round =>
    obtain ⟨i, hil, rfl, D7⟩ := hrel
    obtain ⟨W7, hW7⟩ : ∃ X, X = wr := ⟨_, rfl⟩
    subst hW7
    clear D2 D3 D4 D5 D6
    by_cases hlt : i < R.length
    · have hlt2 : (i : Int) < (R.length : Int) := by omega
      obtain ⟨q, hq⟩ : ∃ q, R[i]? = some q := ⟨R[i], by simp [hlt]⟩
      have HX := Ke.h hq
      have OL : On 5 (W7.alloc (.cells #[] 32)) W7.heap.size (W7.alloc (.cells #[] 32)).heap.size 32 (.slice (some ⟨W7.heap.size, 0, none⟩) 0 0) 0 [] := On.lit 5 W7 W7.heap.size 32 (Nat.le_refl _)
      have sA : ∀ ob, Sn 5 (W7.alloc ob) (.slice ao1 R.length cap1) R.length (nds R) := fun ob => Sn.later (HSR.out.later D7.out) ((Below.refl _ _).alloc (Nat.le_refl _) _)
      have k1 : 0 + R.length ≤ maxLen := by unfold maxLen; omega
      have k2 : (0 + R.length) * 56 ≤ 140737488355328 := by omega
      go_upto_region 9 with fail
      go_wp2_with (at_builtin; go_must (refine wpl_appn 5 (by omega) _ rfl (.tmp 39) (.tmp 40) 24 rfl 32 i0 (.agg #[.string ⟨#[]⟩, .int .i64 0, .int .i64 0, .int .i64 0, .string ⟨#[]⟩]) 56 Try.underlying24 hi hz0 hz1 hz2 rfl W7.heap.size _ 0 [] rfl OL _ rfl R.length (nds R) (sA _) (nds_one R) k1 k2 (by simp) ?_))
      intro v5 W8 o5 b5 _
      have b8 : Below W7.heap.size W7 W8 := ((Below.refl _ _).alloc (Nat.le_refl _) _).trans b5
      have o5 : Od W8 W7.heap.size W8.heap.size v5 R := by first | exact o5 | (rw [Nat.zero_add, List.nil_append] at o5; exact o5)
      clear b5 OL sA k1 k2
      have D8 := Ke.b D7 b8
      obtain ⟨g5, c5, rfl⟩ := On.form1 o5 (by omega)
      have HO : Hid (Od W8 W7.heap.size W8.heap.size (.slice (some ⟨g5, 0, none⟩) R.length c5) R) := o5
      have hg5 := On.lt o5 (g := g5) rfl
      obtain ⟨b9, off9, cap9, he, _, p0, p1, p2, p3, p4⟩ := Sd.at (Od.sd o5) hq
      simp only [Value.slice.injEq, Option.some.injEq, Addr.mk.injEq] at he
      obtain ⟨⟨rfl, rfl, _⟩, _, rfl⟩ := he
      simp only [Nat.zero_add] at p0 p1 p2 p3 p4
      clear hq o5
      have qb := fun W => iB W q (HR.out.dq q (List.mem_of_getElem? HX.out))
      go_upto_region 10 with fail
      go_wp2_with fail
      refine (qb _).mono ?_
      rintro e W9 ⟨rfl, b9⟩
      clear qb p0 p1 p2 p3 p4
      have D9 := Ke.b D8 b9
      have HO9 := Ke.h (On.later HO.out b9 (Nat.le_refl _))
      obtain ⟨cur, hcur, hcl, hcm, hg1, hg2, hcs, hput⟩ := On.put HO9.out
      have HP := Ke.h hput
      clear hput hcs
      have hz9 := b9.size
      have hk5 : i * 5 + 5 ≤ R.length * 5 := by omega
      go_wp2_with (refine wpl_partG rfl 29 _ _ rfl g5 (i * 5 + 1) #[.int .i64 (bmp q).a, .int .i64 (bmp q).b, .int .i64 (bmp q).c, .string (bmp q).pre] rfl rfl cur 32 hcur (by show i * 5 + 1 + 4 ≤ _; omega) (by kernel_rfl) (by simp [Value.oneCell']) _ rfl ?_)
      intro W10 r10 g10

      have om : Od W10 W7.heap.size W8.heap.size (.slice (some ⟨g5, 0, none⟩) R.length c5) (R.set i (bmp q)) := by
        have h9 := HP.out W10 (i * 5 + 1) _ r10
        rw [nds_put (q := q) (q' := bmp q) (by simp) (bmp_put q) R i HX.out] at h9
        unfold Od
        rw [List.length_set]
        exact h9
      have D10 : Hid (Below W1.heap.size W1 W10) := belowGro D9.out g10 D9.out.size (fun k9 h9 => by injection h9 with h9; have := D7.out.size; omega)
      have q11 := iK W10 _ _ R (R.set i (bmp q)) (B1.out.trans (D10.out.mono B1.out.size)) (HSR.out.later D10.out) om.sd (by omega) HR.out.dq (by rw [List.length_set]; omega) (up_dq HR.out HX.out)
      rw [covers_up HR.out HX.out] at q11
      have HM := Ke.h om
      clear om HP HO HO9 hcur r10
      go_wp2_with fail
      refine q11.mono ?_
      rintro e W11 ⟨rfl, b11⟩
      clear q11
      have D11 := Ke.b D10 b11
      have q12 := iK W11 _ _ (R.set i (bmp q)) R (B1.out.trans (D11.out.mono B1.out.size)) (Sd.later HM.out.sd b11) (HSR.out.later D11.out) (by rw [List.length_set]; omega) (up_dq HR.out HX.out) (by omega) HR.out.dq
      rw [up_covers HR.out HX.out] at q12
      go_wp2_with fail
      refine q12.mono ?_
      rintro e W12 ⟨rfl, b12⟩
      clear q12
      have D12 := Ke.b D11 b12
      go_wp2
      go_roundw
      case rel => exact ⟨i + 1, by omega, by go_num, D12⟩
      case measure => simp [intOf]; omega
    · have hlt2 : ¬ (i : Int) < (R.length : Int) := by omega
      go_wp2
      go_ret
      exact ⟨rfl, B1.out.trans (D7.out.mono B1.out.size)⟩

end Go.Proofs.Ytlhmemnaiobgkaa.Se
