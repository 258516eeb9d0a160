/- Chapter 10: drawn tables of heads. -/
import Derived.Test.YtccnhhdcdamgmaaDoorHe6
namespace Go.Proofs.YtccnhhdcdamgmaaDoor.He
open Go.RowKit Go.Proofs.YtccnhhdcdamgmaaDoor.Mem Go.Proofs.YtccnhhdcdamgmaaDoor.Laws Go.Proofs.YtccnhhdcdamgmaaDoor.Bytes Go.Proofs.YtccnhhdcdamgmaaDoor.Sha Go.Proofs.YtccnhhdcdamgmaaDoor.Tr Go.Proofs.YtccnhhdcdamgmaaDoor.Draw
set_option linter.unusedVariables false
set_option linter.unusedSimpArgs false

theorem sz_snoc {T : List Hd} {M : Hd} (h : ∀ x ∈ T, x.r.size ≤ 32) (hm : M.r.size ≤ 32) : ∀ x ∈ T ++ [M], x.r.size ≤ 32 := by
  intro x hx
  rcases List.mem_append.1 hx with h1 | h1
  · exact h x h1
  · rw [List.mem_singleton] at h1; rw [h1]; exact hm

set_option maxRecDepth 1000000 in
set_option maxHeartbeats 4000000 in
theorem any10 (W0 w : World) (g : Nat) (vb : Value) (xs : List Int) (hs : Sl W0 vb (bs xs)) (hby : Byt xs) (hx : xs.length ≤ 140737488355328) (hB : Below W0.heap.size W0 w) (hg : W0.heap.size ≤ g) (hcu : Cur w g vb xs.length) :
    Calls Tryd.prog 52 #[.pointer (some ⟨g, 0, none⟩)] w fun e w' => ∃ (v' : Value) (t : List Hd), e = .returned v' ∧ 1 ≤ t.length ∧ t.length ≤ 11 ∧ (∀ x ∈ t, x.r.size ≤ 32) ∧ Oh w' w.heap.size w'.heap.size v' t ∧ Drawn W0 w g vb xs w' := by
  obtain ⟨i0, hi, hz0, hz1, hz2⟩ := info_parts infoH
  have hgw := hcu.lt
  go_enter Tryd.func52, Tryd.ntmps52
  go_wp2_with fail
  refine (list_any W0 w g vb xs hs hby hx hB hg hcu).mono ?_
  rintro e w2 ⟨v2, l, rfl, hll, hls, o2, d2⟩
  have z2 : w.heap.size ≤ w2.heap.size := d2.apart.size
  have q3 := table_any W0 w2 g vb xs w.heap.size w2.heap.size v2 l (by omega) hls o2 hgw (Nat.le_refl _) hs hby hx d2.below hg d2.cur
  go_wp2_with fail
  refine q3.mono ?_
  rintro e w3 ⟨v3, T, rfl, hT1, hT2, hTz, o3, d3⟩
  have z3 : w2.heap.size ≤ w3.heap.size := d3.apart.size
  have Ow3 : Hid (Oh w3 w.heap.size w3.heap.size v3 T) := On.mono o3 z2 (Nat.le_refl _)
  have Dw3 : Hid (Drawn W0 w g vb xs w3) := d2.and d3
  have Zw3 : Hid (∀ x ∈ T, x.r.size ≤ 32) := hTz
  clear q3 d2 d3 o2 o3 hls hTz
  have q4 := once10 W0 w3 g vb xs 3 (by omega) (by omega) hs hby hx Dw3.out.below hg Dw3.out.cur
  go_wp2_with fail
  refine q4.mono ?_
  rintro e w4 ⟨b4, rfl, d4⟩
  have z4 : w3.heap.size ≤ w4.heap.size := d4.apart.size
  have Ow4 : Hid (Oh w4 w.heap.size w4.heap.size v3 T) := Oh.up Ow3.out (Oh.drawn Ow3.out d4 (.inl hgw) (Nat.le_refl _)) z4
  have Dw4 : Hid (Drawn W0 w g vb xs w4) := Dw3.out.and d4
  have Zw4 : Hid (∀ x ∈ T, x.r.size ≤ 32) := Zw3.out
  clear q4 d4 Ow3 Dw3 Zw3
  cases b4
  · have q6 := once10 W0 w4 g vb xs 6 (by omega) (by omega) hs hby hx Dw4.out.below hg Dw4.out.cur
    go_wp2_with fail
    refine q6.mono ?_
    rintro e y6 ⟨b6, rfl, d6⟩
    have zy6 : w4.heap.size ≤ y6.heap.size := d6.apart.size
    have Oy6 : Hid (Oh y6 w.heap.size y6.heap.size _ T) := Oh.up Ow4.out (Oh.drawn Ow4.out d6 (.inl hgw) (Nat.le_refl _)) zy6
    have Dy6 : Hid (Drawn W0 w g vb xs y6) := Dw4.out.and d6
    clear q6 d6 Ow4 Dw4
    cases b6
    · go_wp2
      go_ret
      first | exact ⟨_, T, rfl, by omega, by omega, Zw4.out, Oy6.out, Dy6.out⟩ | exact ⟨_, rfl, T, by omega, by omega, Zw4.out, Oy6.out, Dy6.out⟩
    · have d7 : ∀ ob, Hid (Drawn W0 w g vb xs (y6.alloc ob)) := fun ob => Dy6.out.on hg hgw ((Below.refl _ _).alloc (by omega) _)
      have gy : g < y6.heap.size := Dy6.out.cur.lt
      go_wp2_with fail
      refine (int_any W0 _ g vb xs y6.heap.size [-1, 2, 201] (lit_block _ _ _) (by omega) (by simp) (by simp) hs hby hx (d7 _).out.below hg (d7 _).out.cur).mono ?_
      rintro e y8 ⟨x8, rfl, xm, d8⟩
      have zy8 : y6.heap.size ≤ y8.heap.size := Nat.le_trans (by simp) d8.apart.size
      have Oy8 : Hid (Oh y8 w.heap.size y8.heap.size _ T) := On.mono (Oh.drawn (On.alloc Oy6.out _) d8 (.inl hgw) (Nat.le_refl _)) (Nat.le_refl _) d8.apart.size
      have Dy8 : Hid (Drawn W0 w g vb xs y8) := (d7 _).out.and d8
      clear d7 d8 Oy6 Dy6 xm
      obtain ⟨M, hM⟩ : ∃ M : Hd, M = ⟨x8, ⟨#[120]⟩⟩ := ⟨_, rfl⟩
      have k1 : T.length + 1 ≤ maxLen := by unfold maxLen; omega
      have k2 : (T.length + 1) * 24 ≤ 140737488355328 := by omega
      have k3 : ∀ ob, w.heap.size ≤ (y8.alloc ob).heap.size := fun ob => by simp; omega
      have O2 : ∀ ob, On 2 (y8.alloc ob) w.heap.size (y8.alloc ob).heap.size 26 _ T.length (hds T) := fun ob => On.alloc Oy8.out ob
      go_wp2_with (at_builtin; go_must (refine wpl_appn 2 (by omega) _ rfl (.tmp 23) (.tmp 28) 29 rfl 26 i0 (.agg #[.int .i64 0, .string ⟨#[]⟩]) 24 Tryd.underlying29 hi hz0 hz1 hz2 rfl w.heap.size _ T.length (hds T) rfl (O2 _) _ rfl 1 (⟨x8, ⟨#[120]⟩⟩ : Hd).cs (Sh.one _ (⟨x8, ⟨#[120]⟩⟩ : Hd)) (cs_one (⟨x8, ⟨#[120]⟩⟩ : Hd)) k1 k2 (k3 _) ?_))
      intro v9 w9 o9 b9 _
      have O9 : Hid (Oh w9 w.heap.size w9.heap.size v9 (T ++ [⟨x8, ⟨#[120]⟩⟩])) := Oh.snoc o9
      have D9 : Hid (Drawn W0 w g vb xs w9) := Dy8.out.on hg hgw (((Below.refl _ _).alloc (by omega) _).trans b9)
      have Z9 : Hid (∀ x ∈ T ++ [(⟨x8, ⟨#[120]⟩⟩ : Hd)], x.r.size ≤ 32) := sz_snoc Zw4.out (show (⟨#[120]⟩ : ByteArray).size ≤ 32 by decide)
      have L9 : 1 ≤ (T ++ [(⟨x8, ⟨#[120]⟩⟩ : Hd)]).length := by rw [List.length_append, List.length_singleton]; omega
      have L9' : (T ++ [(⟨x8, ⟨#[120]⟩⟩ : Hd)]).length ≤ 11 := by rw [List.length_append, List.length_singleton]; omega
      clear O2 o9 b9 Oy8 Dy8 hM
      go_wp2
      go_ret
      first | exact ⟨v9, T ++ [(⟨x8, ⟨#[120]⟩⟩ : Hd)], rfl, L9, L9', Z9.out, O9.out, D9.out⟩ | exact ⟨v9, rfl, T ++ [(⟨x8, ⟨#[120]⟩⟩ : Hd)], L9, L9', Z9.out, O9.out, D9.out⟩
  · have q5 := below_any W0 w4 g vb xs 4 (by omega) (by omega) hs hby hx Dw4.out.below hg Dw4.out.cur
    go_wp2_with fail
    refine q5.mono ?_
    rintro e u1 ⟨n1, rfl, n0, n2, e1⟩
    have y1 : w4.heap.size ≤ u1.heap.size := e1.apart.size
    have Ou1 : Hid (Oh u1 w.heap.size u1.heap.size v3 T) := Oh.up Ow4.out (Oh.drawn Ow4.out e1 (.inl hgw) (Nat.le_refl _)) y1
    have Du1 : Hid (Drawn W0 w g vb xs u1) := Dw4.out.and e1
    have q6 := below_any W0 u1 g vb xs 3 (by omega) (by omega) hs hby hx Du1.out.below hg Du1.out.cur
    clear q5 e1 Ow4 Dw4
    go_wp2_with fail
    refine q6.mono ?_
    rintro e u2 ⟨m1, rfl, m0, m2, e2⟩
    obtain ⟨m, rfl⟩ := Int.eq_ofNat_of_zero_le m0
    have y2 : u1.heap.size ≤ u2.heap.size := e2.apart.size
    have Ou2 : Hid (Oh u2 w.heap.size u2.heap.size v3 T) := Oh.up Ou1.out (Oh.drawn Ou1.out e2 (.inl hgw) (Nat.le_refl _)) y2
    have Du2 : Hid (Drawn W0 w g vb xs u2) := Du1.out.and e2
    have ob := oneB u2 u2.heap.size (m : Int) (Nat.le_refl _)
    have q7 := digest_spec _ _ [(m : Int)] ob.sl (by intro x hx; simp at hx; omega) (by simp)
    have zD : (Plain.txt (digest [(m : Int)])).size ≤ 32 := by rw [txt_size, digest_len]; exact Nat.le_refl _
    obtain ⟨D, hD⟩ : ∃ D, Plain.txt (digest [(m : Int)]) = D := ⟨_, rfl⟩
    rw [hD] at q7 zD
    clear q6 e2 Ou1 Du1 ob hD
    go_wp2_with fail
    refine q7.mono ?_
    rintro e u3 ⟨rfl, b7⟩
    have bb : Below u2.heap.size u2 u3 := ((Below.refl _ _).alloc (Nat.le_refl _) _).trans (b7.mono (by simp))
    have y3 : u2.heap.size ≤ u3.heap.size := bb.size
    have Ou3 : Hid (Oh u3 w.heap.size u3.heap.size v3 T) := Oh.up Ou2.out (Oh.later Ou2.out bb (Nat.le_refl _)) y3
    have Du3 : Hid (Drawn W0 w g vb xs u3) := Du2.out.on hg hgw (bb.mono (by omega))
    have k1 : T.length + 1 ≤ maxLen := by unfold maxLen; omega
    have k2 : (T.length + 1) * 24 ≤ 140737488355328 := by omega
    have k3 : ∀ ob, w.heap.size ≤ (u3.alloc ob).heap.size := fun ob => by simp; omega
    have O2 : ∀ ob, On 2 (u3.alloc ob) w.heap.size (u3.alloc ob).heap.size 26 _ T.length (hds T) := fun ob => On.alloc Ou3.out ob
    clear q7 b7 bb Ou2 Du2
    go_wp2_with (at_builtin; go_must (refine wpl_appn 2 (by omega) _ rfl (.tmp 10) (.tmp 19) 29 rfl 26 i0 (.agg #[.int .i64 0, .string ⟨#[]⟩]) 24 Tryd.underlying29 hi hz0 hz1 hz2 rfl w.heap.size _ T.length (hds T) rfl (O2 _) _ rfl 1 (⟨n1, D⟩ : Hd).cs (Sh.one _ (⟨n1, D⟩ : Hd)) (cs_one (⟨n1, D⟩ : Hd)) k1 k2 (k3 _) ?_))
    intro v5 w5 o5 b5 _
    have Ow5' : Hid (Oh w5 w.heap.size w5.heap.size v5 (T ++ [⟨n1, D⟩])) := Oh.snoc o5
    have Dw5 : Hid (Drawn W0 w g vb xs w5) := Du3.out.on hg hgw (((Below.refl _ _).alloc (by omega) _).trans b5)
    have Zw5' : Hid (∀ x ∈ T ++ [(⟨n1, D⟩ : Hd)], x.r.size ≤ 32) := sz_snoc Zw4.out zD
    have z5 : w.heap.size ≤ w5.heap.size := Dw5.out.apart.size
    obtain ⟨T1, hT'⟩ : ∃ T1, T ++ [(⟨n1, D⟩ : Hd)] = T1 := ⟨_, rfl⟩
    have Ow5 : Hid (Oh w5 w.heap.size w5.heap.size v5 T1) := by rw [← hT']; exact Ow5'
    have Zw5 : Hid (∀ x ∈ T1, x.r.size ≤ 32) := by rw [← hT']; exact Zw5'
    have hA : 1 ≤ T1.length ∧ T1.length ≤ 10 := by rw [← hT', List.length_append]; simp; omega
    obtain ⟨hA1, hA2⟩ := hA
    clear O2 o5 b5 Ou3 Du3 hT' Ow5' Zw5' Zw4
    have q6 := once10 W0 w5 g vb xs 6 (by omega) (by omega) hs hby hx Dw5.out.below hg Dw5.out.cur
    go_wp2_with fail
    refine q6.mono ?_
    rintro e y6 ⟨b6, rfl, d6⟩
    have zy6 : w5.heap.size ≤ y6.heap.size := d6.apart.size
    have Oy6 : Hid (Oh y6 w.heap.size y6.heap.size _ T1) := Oh.up Ow5.out (Oh.drawn Ow5.out d6 (.inl hgw) (Nat.le_refl _)) zy6
    have Dy6 : Hid (Drawn W0 w g vb xs y6) := Dw5.out.and d6
    clear q6 d6 Ow5 Dw5
    cases b6
    · go_wp2
      go_ret
      first | exact ⟨_, T1, rfl, by omega, by omega, Zw5.out, Oy6.out, Dy6.out⟩ | exact ⟨_, rfl, T1, by omega, by omega, Zw5.out, Oy6.out, Dy6.out⟩
    · have d7 : ∀ ob, Hid (Drawn W0 w g vb xs (y6.alloc ob)) := fun ob => Dy6.out.on hg hgw ((Below.refl _ _).alloc (by omega) _)
      have gy : g < y6.heap.size := Dy6.out.cur.lt
      go_wp2_with fail
      refine (int_any W0 _ g vb xs y6.heap.size [-1, 2, 201] (lit_block _ _ _) (by omega) (by simp) (by simp) hs hby hx (d7 _).out.below hg (d7 _).out.cur).mono ?_
      rintro e y8 ⟨x8, rfl, xm, d8⟩
      have zy8 : y6.heap.size ≤ y8.heap.size := Nat.le_trans (by simp) d8.apart.size
      have Oy8 : Hid (Oh y8 w.heap.size y8.heap.size _ T1) := On.mono (Oh.drawn (On.alloc Oy6.out _) d8 (.inl hgw) (Nat.le_refl _)) (Nat.le_refl _) d8.apart.size
      have Dy8 : Hid (Drawn W0 w g vb xs y8) := (d7 _).out.and d8
      clear d7 d8 Oy6 Dy6 xm
      obtain ⟨M, hM⟩ : ∃ M : Hd, M = ⟨x8, ⟨#[120]⟩⟩ := ⟨_, rfl⟩
      have k1 : T1.length + 1 ≤ maxLen := by unfold maxLen; omega
      have k2 : (T1.length + 1) * 24 ≤ 140737488355328 := by omega
      have k3 : ∀ ob, w.heap.size ≤ (y8.alloc ob).heap.size := fun ob => by simp; omega
      have O2 : ∀ ob, On 2 (y8.alloc ob) w.heap.size (y8.alloc ob).heap.size 26 _ T1.length (hds T1) := fun ob => On.alloc Oy8.out ob
      go_wp2_with (at_builtin; go_must (refine wpl_appn 2 (by omega) _ rfl (.tmp 23) (.tmp 28) 29 rfl 26 i0 (.agg #[.int .i64 0, .string ⟨#[]⟩]) 24 Tryd.underlying29 hi hz0 hz1 hz2 rfl w.heap.size _ T1.length (hds T1) rfl (O2 _) _ rfl 1 (⟨x8, ⟨#[120]⟩⟩ : Hd).cs (Sh.one _ (⟨x8, ⟨#[120]⟩⟩ : Hd)) (cs_one (⟨x8, ⟨#[120]⟩⟩ : Hd)) k1 k2 (k3 _) ?_))
      intro v9 w9 o9 b9 _
      have O9 : Hid (Oh w9 w.heap.size w9.heap.size v9 (T1 ++ [⟨x8, ⟨#[120]⟩⟩])) := Oh.snoc o9
      have D9 : Hid (Drawn W0 w g vb xs w9) := Dy8.out.on hg hgw (((Below.refl _ _).alloc (by omega) _).trans b9)
      have Z9 : Hid (∀ x ∈ T1 ++ [(⟨x8, ⟨#[120]⟩⟩ : Hd)], x.r.size ≤ 32) := sz_snoc Zw5.out (show (⟨#[120]⟩ : ByteArray).size ≤ 32 by decide)
      have L9 : 1 ≤ (T1 ++ [(⟨x8, ⟨#[120]⟩⟩ : Hd)]).length := by rw [List.length_append, List.length_singleton]; omega
      have L9' : (T1 ++ [(⟨x8, ⟨#[120]⟩⟩ : Hd)]).length ≤ 11 := by rw [List.length_append, List.length_singleton]; omega
      clear O2 o9 b9 Oy8 Dy8 hM
      go_wp2
      go_ret
      first | exact ⟨v9, T1 ++ [(⟨x8, ⟨#[120]⟩⟩ : Hd)], rfl, L9, L9', Z9.out, O9.out, D9.out⟩ | exact ⟨v9, rfl, T1 ++ [(⟨x8, ⟨#[120]⟩⟩ : Hd)], L9, L9', Z9.out, O9.out, D9.out⟩

end Go.Proofs.YtccnhhdcdamgmaaDoor.He
