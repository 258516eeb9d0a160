/- Texts in one: He6, He7, LgD, Crs, Gets. -/
import Derived.Test.YtchonoonclllbaaGreatDoorPh10
set_option maxHeartbeats 16000000
set_option linter.unusedVariables false
set_option linter.unusedSimpArgs false
namespace Go.Proofs.YtchonoonclllbaaGreatDoor.He
open Go.RowKit Mem Laws Bytes Sha Tr Draw
set_option maxRecDepth 1000000 in
theorem once10 (W0 w : World) (g : Nat) (vb : Value) (xs : List Int) (n : Int) (hn1 : 1 ≤ n) (hn2 : n ≤ 9223372036854775807) (hs : Sl W0 vb (bs xs)) (hby : Byt xs) (hx : xs.length ≤ 140737488355328) (hB : Below W0.heap.size W0 w) (hg : W0.heap.size ≤ g) (hc : Cur w g vb xs.length) :
  Calls Tryz.prog 100 #[.pointer (some ⟨g, 0, none⟩), .int .i64 n] w fun e w' => ∃ b : Bool, e = .returned (.bool b) ∧ Drawn W0 w g vb xs w' := by
 go_enter Tryz.func100, Tryz.ntmps100
 go_wp2_with fail
 refine (below_any W0 _ g vb xs n hn1 hn2 hs hby hx hB hg hc).mono ?_
 rintro e w2 ⟨a, rfl, a0, a1, hd2⟩
 go_wp2_with fail
 go_ret
 exact ⟨_, rfl, hd2⟩
theorem Oh.drawn {W0 w w' : World} {g lo hi : Nat} {vb : Value} {xs : List Int} {v : Value} {t : List Hd} (h : Oh w lo hi v t) (hd : Drawn W0 w g vb xs w') (hgl : g < lo ∨ hi ≤ g) (hh : hi ≤ w.heap.size) : Oh w' lo hi v t :=
 On.apart h hd.apart (by omega) hh
theorem Oh.up {w w' : World} {lo : Nat} {v : Value} {t : List Hd} (h : Oh w lo w.heap.size v t) (hk : Oh w' lo w.heap.size v t) (hs : w.heap.size ≤ w'.heap.size) : Oh w' lo w'.heap.size v t := On.mono hk (Nat.le_refl _) hs
theorem Oh.none (w : World) (lo : Nat) (h : lo ≤ w.heap.size) : Oh (w.alloc (.cells #[] 26)) lo (w.alloc (.cells #[] 26)).heap.size (.slice (some ⟨w.heap.size, 0, none⟩) 0 0) [] := On.lit 2 w lo 26 h
theorem Sh.one (w : World) (h : Hd) : Sn 2 (w.alloc (.cells #[.int .i64 h.n, .string h.r] 26)) (.slice (some ⟨w.heap.size, 0, none⟩) 1 1) 1 h.cs := Sn.one 2 w (hc h) 26 rfl
theorem cs_one (h : Hd) : ∀ u ∈ h.cs, u.oneCell' = true := by
 intro u hu
 simp only [Hd.cs, List.mem_cons, List.not_mem_nil, or_false] at hu
 rcases hu with rfl | rfl <;> rfl
theorem Oh.snoc {w : World} {lo hi : Nat} {v : Value} {t : List Hd} {h : Hd} (o : On 2 w lo hi 26 v (t.length + 1) (hds t ++ h.cs)) : Oh w lo hi v (t ++ [h]) := by
 unfold Oh
 rw [hds_snoc, List.length_append]
 exact o
structure Tab (l : List ByteArray) (t : List Hd) : Prop where
 all : ∀ x ∈ t, ∃ n, n ≤ l.length ∧ x = headOf (l.take n)
 has : headOf l ∈ t
def TabK (l : List ByteArray) (k : Nat) (t : List Hd) : Prop := (∀ x ∈ t, ∃ n, n ≤ l.length ∧ x = headOf (l.take n)) ∧ (l.length < k → headOf l ∈ t)
theorem TabK.nil (l : List ByteArray) : TabK l 0 [] := ⟨fun x hx => (by cases hx), fun h => absurd h (by omega)⟩
theorem TabK.snoc {l : List ByteArray} {k : Nat} {t : List Hd} (h : TabK l k t) (hk : k ≤ l.length) : TabK l (k + 1) (t ++ [headOf (l.take k)]) := by
 refine ⟨fun x hx => ?_, fun h9 => ?_⟩
 ·rcases List.mem_append.1 hx with h1 | h1
  ·exact h.1 x h1
  ·exact ⟨k, hk, List.mem_singleton.1 h1⟩
 ·have e : k = l.length := by omega
  rw [e, List.take_length]
  exact List.mem_append.2 (.inr (List.mem_singleton.2 rfl))
theorem TabK.skip {l : List ByteArray} {k : Nat} {t : List Hd} (h : TabK l k t) (hk : k < l.length) : TabK l (k + 1) t := ⟨h.1, fun h9 => absurd h9 (by omega)⟩
theorem TabK.done {l : List ByteArray} {k : Nat} {t : List Hd} (h : TabK l k t) (hk : ¬ k ≤ l.length) : Tab l t := ⟨h.1, h.2 (by omega)⟩
set_option maxRecDepth 1000000 in
theorem table_tab (W0 w : World) (g : Nat) (vb : Value) (xs : List Int) (lo hi' : Nat) (v : Value) (l : List ByteArray) (hl : l.length ≤ 100) (hz : ∀ s ∈ l, s.size ≤ 3) (o : Own w lo hi' 9 v (ss l)) (hlo : g < lo) (hhi : hi' ≤ w.heap.size) (hs : Sl W0 vb (bs xs)) (hby : Byt xs) (hx : xs.length ≤ 140737488355328) (hB : Below W0.heap.size W0 w) (hg : W0.heap.size ≤ g) (hcu : Cur w g vb xs.length) :
  Calls Tryz.prog 127 #[.pointer (some ⟨g, 0, none⟩), v] w fun e w' => ∃ (v' : Value) (t : List Hd), e = .returned v' ∧ 1 ≤ t.length ∧ t.length ≤ l.length + 1 ∧ (∀ x ∈ t, x.r.size ≤ 32) ∧ Tab l t ∧ Oh w' w.heap.size w'.heap.size v' t ∧ Drawn W0 w g vb xs w' := by
 obtain ⟨i0, hi, hz0, hz1, hz2⟩ := info_parts infoH
 have hgw := hcu.lt
 have HO : Hid (Own w lo hi' 9 v (ss l)) := o
 have hd0 : Drawn W0 w g vb xs (w.alloc (.cells #[] 26)) := (Drawn.refl hB hcu).on hg hgw ((Below.refl _ _).alloc (Nat.le_refl _) _)
 have ho0 := Oh.none w w.heap.size (Nat.le_refl _)
 have hl0 : Own (w.alloc (.cells #[] 26)) lo hi' 9 v (ss l) := o.later ((Below.refl _ _).alloc (Nat.le_refl _) _) hhi
 obtain ⟨ao, cap, rfl⟩ := o.len
 rw [ss_len] at *
 clear o
 go_enter Tryz.func127, Tryz.ntmps127
 go_wp2
 go_loopw [5, 6] (fun out nv wr => ∃ (k : Nat) (T : List Hd), k ≤ l.length + 1 ∧ nv = .int .i64 (k : Int) ∧ T.length ≤ k ∧ (k ≤ l.length ∨ 1 ≤ T.length) ∧ Hid (∀ x ∈ T, x.r.size ≤ 32) ∧ Hid (TabK l k T) ∧ Hid (Oh wr w.heap.size wr.heap.size out T) ∧ Hid (Own wr lo hi' 9 (.slice ao l.length cap) (ss l)) ∧ Hid (Drawn W0 w g vb xs wr)) (fun _ nv _ => l.length + 1 - (intOf nv).toNat)
 case atStart => exact ⟨0, [], by omega, rfl, by simp, by omega, (fun x hx => by cases hx), TabK.nil l, ho0, hl0, hd0⟩
 case round =>
  obtain ⟨k, T, hk, rfl, hT, hT1, HZ, HTK, HT, HL, HD'⟩ := hrel
  clear hd0 ho0 hl0
  by_cases hlt : k ≤ l.length
  ·have hlt' : (k : Int) ≤ (l.length : Int) := by omega
   have q1 := once10 W0 wr g vb xs 3 (by omega) (by omega) hs hby hx HD'.out.below hg HD'.out.cur
   have zw : w.heap.size ≤ wr.heap.size := HD'.out.apart.size
   go_wp2_with fail
   refine q1.mono ?_
   rintro e w1 ⟨b, rfl, d1⟩
   have z1 : wr.heap.size ≤ w1.heap.size := d1.apart.size
   have HT1 : Hid (Oh w1 w.heap.size w1.heap.size _ T) := Oh.up HT.out (Oh.drawn HT.out d1 (.inl hgw) (Nat.le_refl _)) z1
   have HL1 : Hid (Own w1 lo hi' 9 (.slice ao l.length cap) (ss l)) := Own.drawn HL.out d1 (.inl hlo) (by omega)
   have HD1 : Hid (Drawn W0 w g vb xs w1) := HD'.out.and d1
   clear q1 d1 HT HL HD'
   have grow : ((b = false) ∨ k = l.length) ∨ (b = true ∧ k < l.length) := by
    cases b
    ·exact .inl (.inl rfl)
    ·by_cases hkl : k = l.length
     ·exact .inl (.inr hkl)
     ·exact .inr ⟨rfl, by omega⟩
   rcases grow with hgr | ⟨rfl, hkl⟩
   ·have s1 : Sl w1 (.slice ao k cap) (ss (l.take k)) := by rw [← ss_take]; exact HL1.out.sl.front k (by rw [ss_len]; omega)
    have q2 := headOf_spec w1 (.slice ao k cap) (l.take k) s1 (by rw [List.length_take]; omega) (fun s h => Nat.le_trans (hz s (List.mem_of_mem_take h)) (by omega))
    have zh := headOf_size (l.take k)
    obtain ⟨M, hM⟩ : ∃ M, headOf (l.take k) = M := ⟨_, rfl⟩
    rw [hM] at q2 zh
    have HTM : Hid (TabK l (k + 1) (T ++ [M])) := by rw [← hM]; exact TabK.snoc HTK.out hlt
    have HC : Hid (l.length ≤ cap) := by
     obtain ⟨ao', cap', he, hc', _⟩ := HL1.out.sl
     simp only [Value.slice.injEq] at he
     obtain ⟨rfl, _, rfl⟩ := he
     rw [ss_len] at hc'
     exact hc'
    have hcp : (k : Int) ≤ (cap : Int) := by have := HC.out; omega
    have k1 : T.length + 1 ≤ maxLen := by unfold maxLen; omega
    have k2 : (T.length + 1) * 24 ≤ 140737488355328 := by omega
    clear hM s1
    have tail : b = false ∨ (b = true ∧ ((k : Int) == (l.length : Int)) = true) := by
     cases b
     ·exact .inl rfl
     ·refine .inr ⟨rfl, ?_⟩
      rcases hgr with h | h
      ·cases h
      ·rw [beq_iff_eq]; omega
    rcases tail with rfl | ⟨rfl, hkk⟩
    all_goals
     go_wp2_with fail
     refine q2.mono ?_
     rintro e w2 ⟨rfl, b2⟩
     have HT2 : Hid (Oh w2 w.heap.size w2.heap.size _ T) := Oh.up HT1.out (Oh.later HT1.out b2 (Nat.le_refl _)) b2.size
     have HL2 : Hid (Own w2 lo hi' 9 (.slice ao l.length cap) (ss l)) := HL1.out.later b2 (by omega)
     have HD2 : Hid (Drawn W0 w g vb xs w2) := HD1.out.on hg hgw (b2.mono (by omega))
     have z2 : w1.heap.size ≤ w2.heap.size := b2.size
     have k3 : ∀ ob, w.heap.size ≤ (w2.alloc ob).heap.size := fun ob => by simp; omega
     have O2 : ∀ ob, On 2 (w2.alloc ob) w.heap.size (w2.alloc ob).heap.size 26 _ T.length (hds T) := fun ob => On.alloc HT2.out ob
     clear q2 b2 HT1 HL1 HD1
     go_wp2_with (at_builtin; go_must (refine wpl_appn 2 (by omega) _ rfl (.tmp 23) (.tmp 28) 33 rfl 26 i0 (.agg #[.int .i64 0, .string ⟨#[]⟩]) 24 Tryz.underlying33 hi hz0 hz1 hz2 rfl w.heap.size _ T.length (hds T) rfl (O2 _) _ rfl 1 M.cs (Sh.one _ M) (cs_one M) k1 k2 (k3 _) ?_))
     intro v3 w3 o3 b3 _
     have HT3 : Hid (Oh w3 w.heap.size w3.heap.size v3 (T ++ [M])) := Oh.snoc o3
     have b23 : Below w.heap.size w2 w3 := ((Below.refl _ _).alloc (by omega) _).trans b3
     have HL3 : Hid (Own w3 lo hi' 9 (.slice ao l.length cap) (ss l)) := HL2.out.later b23 hhi
     have HD3 : Hid (Drawn W0 w g vb xs w3) := HD2.out.on hg hgw b23
     have HZ3 : Hid (∀ x ∈ T ++ [M], x.r.size ≤ 32) := by
      intro x hx
      rcases List.mem_append.1 hx with h | h
      ·exact HZ.out x h
      ·rw [List.mem_singleton] at h; rw [h]; exact zh
     clear O2 o3 b3 HT2 HL2 HD2 b23
     go_wp2
     go_roundw
     case rel => exact ⟨k + 1, T ++ [M], by omega, by go_num, by simp; omega, by simp, HZ3, HTM, HT3, HL3, HD3⟩
     case measure => simp [intOf]; omega
   ·have hkk : ((k : Int) == (l.length : Int)) = false := by rw [beq_eq_false_iff_ne]; omega
    go_wp2
    go_roundw
    case rel => exact ⟨k + 1, T, by omega, by go_num, by omega, by omega, HZ, TabK.skip HTK.out hkl, HT1, HL1, HD1⟩
    case measure => simp [intOf]; omega
  ·have hlt' : ¬ (k : Int) ≤ (l.length : Int) := by omega
   go_wp2
   go_ret
   first | exact ⟨_, T, rfl, by omega, by omega, HZ.out, TabK.done HTK.out hlt, HT.out, HD'.out⟩ | exact ⟨_, rfl, T, by omega, by omega, HZ.out, TabK.done HTK.out hlt, HT.out, HD'.out⟩
theorem table_any (W0 w : World) (g : Nat) (vb : Value) (xs : List Int) (lo hi' : Nat) (v : Value) (l : List ByteArray) (hl : l.length ≤ 100) (hz : ∀ s ∈ l, s.size ≤ 3) (o : Own w lo hi' 9 v (ss l)) (hlo : g < lo) (hhi : hi' ≤ w.heap.size) (hs : Sl W0 vb (bs xs)) (hby : Byt xs) (hx : xs.length ≤ 140737488355328) (hB : Below W0.heap.size W0 w) (hg : W0.heap.size ≤ g) (hcu : Cur w g vb xs.length) :
  Calls Tryz.prog 127 #[.pointer (some ⟨g, 0, none⟩), v] w fun e w' => ∃ (v' : Value) (t : List Hd), e = .returned v' ∧ 1 ≤ t.length ∧ t.length ≤ l.length + 1 ∧ (∀ x ∈ t, x.r.size ≤ 32) ∧ Oh w' w.heap.size w'.heap.size v' t ∧ Drawn W0 w g vb xs w' := by
 refine (table_tab W0 w g vb xs lo hi' v l hl hz o hlo hhi hs hby hx hB hg hcu).mono ?_
 rintro e w' ⟨v', t, h1, h2, h3, h4, _, h6, h7⟩
 exact ⟨v', t, h1, h2, h3, h4, h6, h7⟩
theorem sz_snoc {T : List Hd} {M : Hd} (h : ∀ x ∈ T, x.r.size ≤ 32) (hm : M.r.size ≤ 32) : ∀ x ∈ T ++ [M], x.r.size ≤ 32 := by
 intro x hx
 rcases List.mem_append.1 hx with h1 | h1
 ·exact h x h1
 ·rw [List.mem_singleton] at h1; rw [h1]; exact hm
set_option maxRecDepth 1000000 in
theorem any10 (W0 w : World) (g : Nat) (vb : Value) (xs : List Int) (hs : Sl W0 vb (bs xs)) (hby : Byt xs) (hx : xs.length ≤ 140737488355328) (hB : Below W0.heap.size W0 w) (hg : W0.heap.size ≤ g) (hcu : Cur w g vb xs.length) :
  Calls Tryz.prog 80 #[.pointer (some ⟨g, 0, none⟩)] w fun e w' => ∃ (v' : Value) (t : List Hd), e = .returned v' ∧ 1 ≤ t.length ∧ t.length ≤ 11 ∧ (∀ x ∈ t, x.r.size ≤ 32) ∧ Oh w' w.heap.size w'.heap.size v' t ∧ Drawn W0 w g vb xs w' := by
 obtain ⟨i0, hi, hz0, hz1, hz2⟩ := info_parts infoH
 have hgw := hcu.lt
 go_enter Tryz.func80, Tryz.ntmps80
 go_wp2_with fail
 refine (list_any W0 w g vb xs hs hby hx hB hg hcu).mono ?_
 rintro e w2 ⟨v2, l, rfl, hll, hls, o2, d2⟩
 have z2 : w.heap.size ≤ w2.heap.size := d2.apart.size
 have q3 := table_any W0 w2 g vb xs w.heap.size w2.heap.size v2 l (by omega) hls o2 hgw (Nat.le_refl _) hs hby hx d2.below hg d2.cur
 go_wp2_with fail
 refine q3.mono ?_
 rintro e w3 ⟨v3, T, rfl, hT1, hT2, hTz, o3, d3⟩
 have z3 : w2.heap.size ≤ w3.heap.size := d3.apart.size
 have Ow3 : Hid (Oh w3 w.heap.size w3.heap.size v3 T) := On.mono o3 z2 (Nat.le_refl _)
 have Dw3 : Hid (Drawn W0 w g vb xs w3) := d2.and d3
 have Zw3 : Hid (∀ x ∈ T, x.r.size ≤ 32) := hTz
 clear q3 d2 d3 o2 o3 hls hTz
 have q4 := once10 W0 w3 g vb xs 3 (by omega) (by omega) hs hby hx Dw3.out.below hg Dw3.out.cur
 go_wp2_with fail
 refine q4.mono ?_
 rintro e w4 ⟨b4, rfl, d4⟩
 have z4 : w3.heap.size ≤ w4.heap.size := d4.apart.size
 have Ow4 : Hid (Oh w4 w.heap.size w4.heap.size v3 T) := Oh.up Ow3.out (Oh.drawn Ow3.out d4 (.inl hgw) (Nat.le_refl _)) z4
 have Dw4 : Hid (Drawn W0 w g vb xs w4) := Dw3.out.and d4
 have Zw4 : Hid (∀ x ∈ T, x.r.size ≤ 32) := Zw3.out
 clear q4 d4 Ow3 Dw3 Zw3
 cases b4
 ·have q6 := once10 W0 w4 g vb xs 6 (by omega) (by omega) hs hby hx Dw4.out.below hg Dw4.out.cur
  go_wp2_with fail
  refine q6.mono ?_
  rintro e y6 ⟨b6, rfl, d6⟩
  have zy6 : w4.heap.size ≤ y6.heap.size := d6.apart.size
  have Oy6 : Hid (Oh y6 w.heap.size y6.heap.size _ T) := Oh.up Ow4.out (Oh.drawn Ow4.out d6 (.inl hgw) (Nat.le_refl _)) zy6
  have Dy6 : Hid (Drawn W0 w g vb xs y6) := Dw4.out.and d6
  clear q6 d6 Ow4 Dw4
  cases b6
  ·go_wp2
   go_ret
   first | exact ⟨_, T, rfl, by omega, by omega, Zw4.out, Oy6.out, Dy6.out⟩ | exact ⟨_, rfl, T, by omega, by omega, Zw4.out, Oy6.out, Dy6.out⟩
  ·have d7 : ∀ ob, Hid (Drawn W0 w g vb xs (y6.alloc ob)) := fun ob => Dy6.out.on hg hgw ((Below.refl _ _).alloc (by omega) _)
   have gy : g < y6.heap.size := Dy6.out.cur.lt
   go_wp2_with fail
   refine (int_any W0 _ g vb xs y6.heap.size [-1, 2, 201] (lit_block _ _ _) (by omega) (by simp) (by simp) hs hby hx (d7 _).out.below hg (d7 _).out.cur).mono ?_
   rintro e y8 ⟨x8, rfl, xm, d8⟩
   have zy8 : y6.heap.size ≤ y8.heap.size := Nat.le_trans (by simp) d8.apart.size
   have Oy8 : Hid (Oh y8 w.heap.size y8.heap.size _ T) := On.mono (Oh.drawn (On.alloc Oy6.out _) d8 (.inl hgw) (Nat.le_refl _)) (Nat.le_refl _) d8.apart.size
   have Dy8 : Hid (Drawn W0 w g vb xs y8) := (d7 _).out.and d8
   clear d7 d8 Oy6 Dy6 xm
   obtain ⟨M, hM⟩ : ∃ M : Hd, M = ⟨x8, ⟨#[120]⟩⟩ := ⟨_, rfl⟩
   have k1 : T.length + 1 ≤ maxLen := by unfold maxLen; omega
   have k2 : (T.length + 1) * 24 ≤ 140737488355328 := by omega
   have k3 : ∀ ob, w.heap.size ≤ (y8.alloc ob).heap.size := fun ob => by simp; omega
   have O2 : ∀ ob, On 2 (y8.alloc ob) w.heap.size (y8.alloc ob).heap.size 26 _ T.length (hds T) := fun ob => On.alloc Oy8.out ob
   go_wp2_with (at_builtin; go_must (refine wpl_appn 2 (by omega) _ rfl (.tmp 23) (.tmp 28) 33 rfl 26 i0 (.agg #[.int .i64 0, .string ⟨#[]⟩]) 24 Tryz.underlying33 hi hz0 hz1 hz2 rfl w.heap.size _ T.length (hds T) rfl (O2 _) _ rfl 1 (⟨x8, ⟨#[120]⟩⟩ : Hd).cs (Sh.one _ (⟨x8, ⟨#[120]⟩⟩ : Hd)) (cs_one (⟨x8, ⟨#[120]⟩⟩ : Hd)) k1 k2 (k3 _) ?_))
   intro v9 w9 o9 b9 _
   have O9 : Hid (Oh w9 w.heap.size w9.heap.size v9 (T ++ [⟨x8, ⟨#[120]⟩⟩])) := Oh.snoc o9
   have D9 : Hid (Drawn W0 w g vb xs w9) := Dy8.out.on hg hgw (((Below.refl _ _).alloc (by omega) _).trans b9)
   have Z9 : Hid (∀ x ∈ T ++ [(⟨x8, ⟨#[120]⟩⟩ : Hd)], x.r.size ≤ 32) := sz_snoc Zw4.out (show (⟨#[120]⟩ : ByteArray).size ≤ 32 by decide)
   have L9 : 1 ≤ (T ++ [(⟨x8, ⟨#[120]⟩⟩ : Hd)]).length := by rw [List.length_append, List.length_singleton]; omega
   have L9' : (T ++ [(⟨x8, ⟨#[120]⟩⟩ : Hd)]).length ≤ 11 := by rw [List.length_append, List.length_singleton]; omega
   clear O2 o9 b9 Oy8 Dy8 hM
   go_wp2
   go_ret
   first | exact ⟨v9, T ++ [(⟨x8, ⟨#[120]⟩⟩ : Hd)], rfl, L9, L9', Z9.out, O9.out, D9.out⟩ | exact ⟨v9, rfl, T ++ [(⟨x8, ⟨#[120]⟩⟩ : Hd)], L9, L9', Z9.out, O9.out, D9.out⟩
 ·have q5 := below_any W0 w4 g vb xs 4 (by omega) (by omega) hs hby hx Dw4.out.below hg Dw4.out.cur
  go_wp2_with fail
  refine q5.mono ?_
  rintro e u1 ⟨n1, rfl, n0, n2, e1⟩
  have y1 : w4.heap.size ≤ u1.heap.size := e1.apart.size
  have Ou1 : Hid (Oh u1 w.heap.size u1.heap.size v3 T) := Oh.up Ow4.out (Oh.drawn Ow4.out e1 (.inl hgw) (Nat.le_refl _)) y1
  have Du1 : Hid (Drawn W0 w g vb xs u1) := Dw4.out.and e1
  have q6 := below_any W0 u1 g vb xs 3 (by omega) (by omega) hs hby hx Du1.out.below hg Du1.out.cur
  clear q5 e1 Ow4 Dw4
  go_wp2_with fail
  refine q6.mono ?_
  rintro e u2 ⟨m1, rfl, m0, m2, e2⟩
  obtain ⟨m, rfl⟩ := Int.eq_ofNat_of_zero_le m0
  have y2 : u1.heap.size ≤ u2.heap.size := e2.apart.size
  have Ou2 : Hid (Oh u2 w.heap.size u2.heap.size v3 T) := Oh.up Ou1.out (Oh.drawn Ou1.out e2 (.inl hgw) (Nat.le_refl _)) y2
  have Du2 : Hid (Drawn W0 w g vb xs u2) := Du1.out.and e2
  have ob := oneB u2 u2.heap.size (m : Int) (Nat.le_refl _)
  have q7 := digest_spec _ _ [(m : Int)] ob.sl (by intro x hx; simp at hx; omega) (by simp)
  have zD : (Plain.txt (digest [(m : Int)])).size ≤ 32 := by rw [txt_size, digest_len]; exact Nat.le_refl _
  obtain ⟨D, hD⟩ : ∃ D, Plain.txt (digest [(m : Int)]) = D := ⟨_, rfl⟩
  rw [hD] at q7 zD
  clear q6 e2 Ou1 Du1 ob hD
  go_wp2_with fail
  refine q7.mono ?_
  rintro e u3 ⟨rfl, b7⟩
  have bb : Below u2.heap.size u2 u3 := ((Below.refl _ _).alloc (Nat.le_refl _) _).trans (b7.mono (by simp))
  have y3 : u2.heap.size ≤ u3.heap.size := bb.size
  have Ou3 : Hid (Oh u3 w.heap.size u3.heap.size v3 T) := Oh.up Ou2.out (Oh.later Ou2.out bb (Nat.le_refl _)) y3
  have Du3 : Hid (Drawn W0 w g vb xs u3) := Du2.out.on hg hgw (bb.mono (by omega))
  have k1 : T.length + 1 ≤ maxLen := by unfold maxLen; omega
  have k2 : (T.length + 1) * 24 ≤ 140737488355328 := by omega
  have k3 : ∀ ob, w.heap.size ≤ (u3.alloc ob).heap.size := fun ob => by simp; omega
  have O2 : ∀ ob, On 2 (u3.alloc ob) w.heap.size (u3.alloc ob).heap.size 26 _ T.length (hds T) := fun ob => On.alloc Ou3.out ob
  clear q7 b7 bb Ou2 Du2
  go_wp2_with (at_builtin; go_must (refine wpl_appn 2 (by omega) _ rfl (.tmp 10) (.tmp 19) 33 rfl 26 i0 (.agg #[.int .i64 0, .string ⟨#[]⟩]) 24 Tryz.underlying33 hi hz0 hz1 hz2 rfl w.heap.size _ T.length (hds T) rfl (O2 _) _ rfl 1 (⟨n1, D⟩ : Hd).cs (Sh.one _ (⟨n1, D⟩ : Hd)) (cs_one (⟨n1, D⟩ : Hd)) k1 k2 (k3 _) ?_))
  intro v5 w5 o5 b5 _
  have Ow5' : Hid (Oh w5 w.heap.size w5.heap.size v5 (T ++ [⟨n1, D⟩])) := Oh.snoc o5
  have Dw5 : Hid (Drawn W0 w g vb xs w5) := Du3.out.on hg hgw (((Below.refl _ _).alloc (by omega) _).trans b5)
  have Zw5' : Hid (∀ x ∈ T ++ [(⟨n1, D⟩ : Hd)], x.r.size ≤ 32) := sz_snoc Zw4.out zD
  have z5 : w.heap.size ≤ w5.heap.size := Dw5.out.apart.size
  obtain ⟨T1, hT'⟩ : ∃ T1, T ++ [(⟨n1, D⟩ : Hd)] = T1 := ⟨_, rfl⟩
  have Ow5 : Hid (Oh w5 w.heap.size w5.heap.size v5 T1) := by rw [← hT']; exact Ow5'
  have Zw5 : Hid (∀ x ∈ T1, x.r.size ≤ 32) := by rw [← hT']; exact Zw5'
  have hA : 1 ≤ T1.length ∧ T1.length ≤ 10 := by rw [← hT', List.length_append]; simp; omega
  obtain ⟨hA1, hA2⟩ := hA
  clear O2 o5 b5 Ou3 Du3 hT' Ow5' Zw5' Zw4
  have q6 := once10 W0 w5 g vb xs 6 (by omega) (by omega) hs hby hx Dw5.out.below hg Dw5.out.cur
  go_wp2_with fail
  refine q6.mono ?_
  rintro e y6 ⟨b6, rfl, d6⟩
  have zy6 : w5.heap.size ≤ y6.heap.size := d6.apart.size
  have Oy6 : Hid (Oh y6 w.heap.size y6.heap.size _ T1) := Oh.up Ow5.out (Oh.drawn Ow5.out d6 (.inl hgw) (Nat.le_refl _)) zy6
  have Dy6 : Hid (Drawn W0 w g vb xs y6) := Dw5.out.and d6
  clear q6 d6 Ow5 Dw5
  cases b6
  ·go_wp2
   go_ret
   first | exact ⟨_, T1, rfl, by omega, by omega, Zw5.out, Oy6.out, Dy6.out⟩ | exact ⟨_, rfl, T1, by omega, by omega, Zw5.out, Oy6.out, Dy6.out⟩
  ·have d7 : ∀ ob, Hid (Drawn W0 w g vb xs (y6.alloc ob)) := fun ob => Dy6.out.on hg hgw ((Below.refl _ _).alloc (by omega) _)
   have gy : g < y6.heap.size := Dy6.out.cur.lt
   go_wp2_with fail
   refine (int_any W0 _ g vb xs y6.heap.size [-1, 2, 201] (lit_block _ _ _) (by omega) (by simp) (by simp) hs hby hx (d7 _).out.below hg (d7 _).out.cur).mono ?_
   rintro e y8 ⟨x8, rfl, xm, d8⟩
   have zy8 : y6.heap.size ≤ y8.heap.size := Nat.le_trans (by simp) d8.apart.size
   have Oy8 : Hid (Oh y8 w.heap.size y8.heap.size _ T1) := On.mono (Oh.drawn (On.alloc Oy6.out _) d8 (.inl hgw) (Nat.le_refl _)) (Nat.le_refl _) d8.apart.size
   have Dy8 : Hid (Drawn W0 w g vb xs y8) := (d7 _).out.and d8
   clear d7 d8 Oy6 Dy6 xm
   obtain ⟨M, hM⟩ : ∃ M : Hd, M = ⟨x8, ⟨#[120]⟩⟩ := ⟨_, rfl⟩
   have k1 : T1.length + 1 ≤ maxLen := by unfold maxLen; omega
   have k2 : (T1.length + 1) * 24 ≤ 140737488355328 := by omega
   have k3 : ∀ ob, w.heap.size ≤ (y8.alloc ob).heap.size := fun ob => by simp; omega
   have O2 : ∀ ob, On 2 (y8.alloc ob) w.heap.size (y8.alloc ob).heap.size 26 _ T1.length (hds T1) := fun ob => On.alloc Oy8.out ob
   go_wp2_with (at_builtin; go_must (refine wpl_appn 2 (by omega) _ rfl (.tmp 23) (.tmp 28) 33 rfl 26 i0 (.agg #[.int .i64 0, .string ⟨#[]⟩]) 24 Tryz.underlying33 hi hz0 hz1 hz2 rfl w.heap.size _ T1.length (hds T1) rfl (O2 _) _ rfl 1 (⟨x8, ⟨#[120]⟩⟩ : Hd).cs (Sh.one _ (⟨x8, ⟨#[120]⟩⟩ : Hd)) (cs_one (⟨x8, ⟨#[120]⟩⟩ : Hd)) k1 k2 (k3 _) ?_))
   intro v9 w9 o9 b9 _
   have O9 : Hid (Oh w9 w.heap.size w9.heap.size v9 (T1 ++ [⟨x8, ⟨#[120]⟩⟩])) := Oh.snoc o9
   have D9 : Hid (Drawn W0 w g vb xs w9) := Dy8.out.on hg hgw (((Below.refl _ _).alloc (by omega) _).trans b9)
   have Z9 : Hid (∀ x ∈ T1 ++ [(⟨x8, ⟨#[120]⟩⟩ : Hd)], x.r.size ≤ 32) := sz_snoc Zw5.out (show (⟨#[120]⟩ : ByteArray).size ≤ 32 by decide)
   have L9 : 1 ≤ (T1 ++ [(⟨x8, ⟨#[120]⟩⟩ : Hd)]).length := by rw [List.length_append, List.length_singleton]; omega
   have L9' : (T1 ++ [(⟨x8, ⟨#[120]⟩⟩ : Hd)]).length ≤ 11 := by rw [List.length_append, List.length_singleton]; omega
   clear O2 o9 b9 Oy8 Dy8 hM
   go_wp2
   go_ret
   first | exact ⟨v9, T1 ++ [(⟨x8, ⟨#[120]⟩⟩ : Hd)], rfl, L9, L9', Z9.out, O9.out, D9.out⟩ | exact ⟨v9, rfl, T1 ++ [(⟨x8, ⟨#[120]⟩⟩ : Hd)], L9, L9', Z9.out, O9.out, D9.out⟩
end Go.Proofs.YtchonoonclllbaaGreatDoor.He
namespace Go.Proofs.YtchonoonclllbaaGreatDoor.Lg
open Go.RowKit Mem Laws Bytes Sha Tr Draw He
theorem keep1 {w w' : World} {lo hi : Nat} {e : TypeId} {v : Value} {cs : List Value} (h : Own w lo hi e v cs) (hk : ∀ g, v.ownBlock = some g → w'.heap[g]? = w.heap[g]?) : Own w' lo hi e v cs := by
 obtain ⟨⟨h1, h2⟩, h3⟩ := h
 refine ⟨⟨h1, ?_⟩, h3⟩
 rcases h2 with h2 | ⟨g, cap, cur, rfl, hb, hg, r⟩
 ·exact .inl h2
 ·exact .inr ⟨g, cap, cur, rfl, hb, by rw [hk g rfl]; exact hg, r⟩
theorem ne_row {w : World} {lo hi g : Nat} {e t : TypeId} {v : Value} {cs : List Value} {cs' : Array Value} {fr : Nat × Nat} (h : Own w lo hi e v cs) (hr : w.heap[g]? = some (.cells cs' t fr)) (ht : t ≠ e) : v.ownBlock ≠ some g := by
 intro hv
 obtain ⟨⟨h1, h2⟩, h3⟩ := h
 rcases h2 with ⟨rfl, _⟩ | ⟨g', cap, cur, rfl, hb, hg, r⟩
 ·simp [Value.ownBlock] at hv
 ·simp [Value.ownBlock] at hv
  subst hv
  rw [hg] at hr
  simp at hr
  exact ht hr.2.1.symm
set_option maxRecDepth 1000000 in
theorem log_spec (w : World) (v : Value) (l : List ByteArray) (hs : Sl w v (ss l)) (hl : l.length ≤ 1000000000000) (hz : ∀ s ∈ l, s.size ≤ 10000000000) :
  Calls Tryz.prog 170 #[v] w fun e w' => e = .returned (.agg #[v, .int .i64 (headOf l).n, .string (headOf l).r]) ∧ Below w.heap.size w w' := by
 obtain ⟨W, hW, HR, HB⟩ : ∃ W, Hid (w.alloc (.cells #[.slice none 0 0, .int .i64 0, .string ⟨#[]⟩] 28) = W) ∧ Hid (W.heap[w.heap.size]? = some (.cells (lc (.slice none 0 0) hd0) 28 (0, 0))) ∧ Hid (Below w.heap.size w W) := ⟨_, rfl, heap_alloc_new w _, (Below.refl _ _).alloc (Nat.le_refl _) _⟩
 have q := headOf_spec W v l (hs.later HB.out) hl hz
 obtain ⟨ao, cap, rfl, hcap⟩ := hs.form
 rw [ss_len] at *
 obtain ⟨M, hM⟩ : ∃ M, headOf l = M := ⟨_, rfl⟩
 rw [hM] at q ⊢
 rw [← hW.out] at q
 clear hM hs hz
 go_enter Tryz.func170, Tryz.ntmps170
 go_wp2_with fail
 refine q.mono ?_
 rw [hW.out]
 rintro e w1 ⟨rfl, b1⟩
 have R1 := rowKeep HR.out b1
 have B1 : Below w.heap.size w w1 := HB.out.trans (b1.mono HB.out.size)
 clear q b1 HR HB hW
 go_wp2_with (refine wpList_store_row rfl 28 _ _ rfl w.heap.size (lc (.slice ao l.length cap) M) rfl rfl 28 _ R1 (sizeL _ _) rfl (oneL _ rfl) ?_)
 exact bodyPost_ret (v := .agg (lc (.slice ao l.length cap) M)) (results_cell_row rfl _ _ w.heap.size 28 _ (0, 0) _ rfl (setRow_heap _ _ _ _ _ (0, 0) R1) Tryz.underlying28 rfl (sizeL _ _)) rfl ⟨rfl, below_setRow B1 (Nat.le_refl _) _⟩
theorem drawn_row {W0 w w' : World} {g k : Nat} {vb : Value} {xs : List Int} {o : Obj} (h : w.heap[k]? = some o) (d : Drawn W0 w g vb xs w') (hk : k ≠ g) : w'.heap[k]? = some o :=
 (d.apart.block k (Array.getElem?_eq_some_iff.1 h).1 (by omega)).trans h
set_option maxRecDepth 1000000 in
theorem any11 (W0 w : World) (g : Nat) (vb : Value) (xs : List Int) (hs : Sl W0 vb (bs xs)) (hby : Byt xs) (hx : xs.length ≤ 140737488355328) (hB : Below W0.heap.size W0 w) (hg : W0.heap.size ≤ g) (hcu : Cur w g vb xs.length) :
  Calls Tryz.prog 129 #[.pointer (some ⟨g, 0, none⟩)] w fun e w' => ∃ (v' : Value) (l : List ByteArray) (h : Hd), e = .returned (.agg #[v', .int .i64 h.n, .string h.r]) ∧ l.length ≤ 9 ∧ (∀ s ∈ l, s.size ≤ 3) ∧ h.r.size ≤ 32 ∧ Own w' w.heap.size w'.heap.size 9 v' (ss l) ∧ Drawn W0 w g vb xs w' := by
 obtain ⟨i0, hi, hz0, hz1, hz2⟩ := info_parts info9t
 have hgw := hcu.lt
 obtain ⟨W, hW, R0, d0, bW, zW⟩ : ∃ W, Hid (w.alloc (.cells #[.slice none 0 0, .int .i64 0, .string ⟨#[]⟩] 28) = W) ∧ Hid (W.heap[w.heap.size]? = some (.cells (lc (.slice none 0 0) hd0) 28 (0, 0))) ∧ Hid (Drawn W0 w g vb xs W) ∧ Below w.heap.size w W ∧ Hid (W.heap.size = w.heap.size + 1) := ⟨_, rfl, heap_alloc_new w _, (Drawn.refl hB hcu).on hg hgw ((Below.refl _ _).alloc (Nat.le_refl _) _), (Below.refl _ _).alloc (Nat.le_refl _) _, by show _ = _; simp⟩
 have q2 := list_any W0 W g vb xs hs hby hx d0.out.below hg d0.out.cur
 rw [← hW.out] at q2
 go_enter Tryz.func129, Tryz.ntmps129
 go_wp2_with fail
 refine q2.mono ?_
 rw [hW.out]
 rintro e w2 ⟨v2, l, rfl, hll, hls, o2, d2⟩
 have z2 : W.heap.size ≤ w2.heap.size := d2.apart.size
 have R2 : Hid (w2.heap[w.heap.size]? = some (.cells (lc (.slice none 0 0) hd0) 28 (0, 0))) := drawn_row R0.out d2 (by omega)
 have D2 : Hid (Drawn W0 w g vb xs w2) := d0.out.and d2
 have q3 := log_spec w2 v2 l o2.sl (by omega) (fun s hs => by have := hls s hs; omega)
 have hMz := headOf_size l
 have hMn : 0 ≤ (headOf l).n ∧ (headOf l).n ≤ 8 := by unfold headOf; rw [if_pos (by omega)]; exact ⟨by show (0 : Int) ≤ (l.length : Int); omega, by show (l.length : Int) ≤ 8; omega⟩
 obtain ⟨M, hM⟩ : ∃ M, headOf l = M := ⟨_, rfl⟩
 rw [hM] at q3 hMz hMn
 obtain ⟨ao2, L2, cap2, rfl, hL1, hL2⟩ := Mem.Own.form o2
 have O2 : Hid (Own w2 W.heap.size w2.heap.size 9 (.slice ao2 L2 cap2) (ss l)) := o2
 have HLS : Hid (∀ s ∈ l, s.size ≤ 3) := hls
 clear q2 R0 d0 d2 hM o2 hls bW hW
 go_wp2_with fail
 refine q3.mono ?_
 rintro e w3 ⟨rfl, b3⟩
 have z3 : w2.heap.size ≤ w3.heap.size := b3.size
 have hzW1 : W.heap.size ≤ w.heap.size + 1 := by rw [zW.out]; exact Nat.le_refl _
 have hzW2 : w.heap.size + 1 ≤ W.heap.size := by rw [zW.out]; exact Nat.le_refl _
 have hgw3 : g < w3.heap.size := by omega
 have R3 := rowKeep R2.out b3
 have O3 := Own.later O2.out b3 (Nat.le_refl _)
 have D3 : Drawn W0 w g vb xs w3 := D2.out.on hg hgw (b3.mono (by omega))
 obtain ⟨X, hX, XR, XL, XO, XD, zX⟩ : ∃ X, Hid (w3.alloc (.cells #[.slice ao2 L2 cap2, .int .i64 M.n, .string M.r] 28) = X) ∧ Hid (X.heap[w.heap.size]? = some (.cells (lc (.slice none 0 0) hd0) 28 (0, 0))) ∧ Hid (X.heap[w3.heap.size]? = some (.cells (lc (.slice ao2 L2 cap2) M) 28 (0, 0))) ∧ Hid (Own X W.heap.size w2.heap.size 9 (.slice ao2 L2 cap2) (ss l)) ∧ Hid (Drawn W0 w g vb xs X) ∧ w3.heap.size + 1 ≤ X.heap.size :=
  ⟨_, rfl, (heap_alloc_old _ _ (by omega)).trans R3, heap_alloc_new _ _, Own.later (B := w3.heap.size) O3 ((Below.refl _ _).alloc (Nat.le_refl _) _) z3, D3.on hg hgw ((Below.refl _ _).alloc (by omega) _), by simp⟩
 have q4 := below_any W0 X g vb xs 10 (by omega) (by omega) hs hby hx XD.out.below hg XD.out.cur
 rw [← hX.out] at q4
 clear q3 b3 R2 R3 O2 O3 D2 D3
 go_wp2_with fail
 refine q4.mono ?_
 rw [hX.out]
 rintro e w5 ⟨x, rfl, hx0, hx1, d5⟩
 have z5 : X.heap.size ≤ w5.heap.size := d5.apart.size
 have R5 : Hid (w5.heap[w.heap.size]? = some (.cells (lc (.slice none 0 0) hd0) 28 (0, 0))) := drawn_row XR.out d5 (by omega)
 have L5 : Hid (w5.heap[w3.heap.size]? = some (.cells (lc (.slice ao2 L2 cap2) M) 28 (0, 0))) := drawn_row XL.out d5 (by omega)
 have O5 : Hid (Own w5 W.heap.size w2.heap.size 9 (.slice ao2 L2 cap2) (ss l)) := Own.drawn XO.out d5 (.inl (by omega)) (by omega)
 have D5 : Hid (Drawn W0 w g vb xs w5) := XD.out.and d5
 have k0 : w5.cell? ⟨w3.heap.size, 0, none⟩ = some (.slice ao2 L2 cap2) := row_at L5.out 0
 have k1 : w5.cell? ⟨w3.heap.size, 1, none⟩ = some (.int .i64 M.n) := row_at L5.out 1
 have f0 : w5.frozen? ⟨w3.heap.size, 0, none⟩ = false := row_free L5.out 0
 have f1 : w5.frozen? ⟨w3.heap.size, 1, none⟩ = false := row_free L5.out 1
 clear q4 XR XL XO XD d5 hX
 by_cases c0 : x = 0
 ·subst c0
  have o1 : ∀ o, Own (w5.alloc o) W.heap.size (w5.alloc o).heap.size 9 (.slice ao2 L2 cap2) (ss l) := fun o => (Own.later (B := w5.heap.size) O5.out ((Below.refl _ _).alloc (Nat.le_refl _) o) (by omega)).mono (Nat.le_refl _) (by simp; omega)
  have c2 : (ss l).length + 1 ≤ maxLen := by rw [ss_len]; unfold maxLen; omega
  have c3 : ((ss l).length + 1) * 16 ≤ 140737488355328 := by rw [ss_len]; omega
  have c4 : ∀ o, W.heap.size ≤ (w5.alloc o).heap.size := fun o => by simp; omega
  go_wp2_with (at_builtin; go_must (refine wpl_app _ rfl (.tmp 12) (.tmp 13) 24 rfl 9 i0 (.string ⟨#[]⟩) 16 Tryz.underlying24 hi hz0 hz1 hz2 rfl W.heap.size _ (ss l) rfl (o1 _) _ rfl [.string ⟨#[120]⟩] (Sl.one _ _ _) (oneT _) c2 c3 (c4 _) ?_))
  intro v6 w6 ho6 hb6 hg6
  have L5' : (w5.alloc (.cells #[.string ⟨#[120]⟩] 9)).heap[w3.heap.size]? = some (.cells (lc (.slice ao2 L2 cap2) M) 28 (0, 0)) := (heap_alloc_old _ _ (by omega)).trans L5.out
  have L6 : w6.heap[w3.heap.size]? = some (.cells (lc (.slice ao2 L2 cap2) M) 28 (0, 0)) := (hg6.block w3.heap.size (by simp; omega) (fun h => ne_row O5.out L5.out (by decide) h.symm)).trans L5'
  have R6 : w6.heap[w.heap.size]? = some (.cells (lc (.slice none 0 0) hd0) 28 (0, 0)) := (hb6.block w.heap.size (by omega)).trans ((heap_alloc_old _ _ (by omega)).trans R5.out)
  have z6 : w5.heap.size + 1 ≤ w6.heap.size := by have := hb6.size; simp at this; omega
  have D6 : Drawn W0 w g vb xs w6 := (D5.out.on hg hgw ((Below.refl _ _).alloc (by omega) (.cells #[.string ⟨#[120]⟩] 9))).on hg hgw (hb6.mono (by omega))
  obtain ⟨ao6, L6n, cap6, rfl, hq1, hq2⟩ := Mem.Own.form ho6
  have j0 : w6.cell? ⟨w3.heap.size, 0, none⟩ = some (.slice ao2 L2 cap2) := row_at L6 0
  have e0 : w6.frozen? ⟨w3.heap.size, 0, none⟩ = false := row_free L6 0
  have hne := ne_row ho6 L6 (by decide)
  obtain ⟨Y, HY, YL, YR, YO, YD, YZ⟩ : ∃ Y, Hid (w6.setCell ⟨w3.heap.size, 0, none⟩ (.slice ao6 L6n cap6) = Y) ∧ Hid (Y.heap[w3.heap.size]? = some (.cells (lc (.slice ao6 L6n cap6) M) 28 (0, 0))) ∧ Hid (Y.heap[w.heap.size]? = some (.cells (lc (.slice none 0 0) hd0) 28 (0, 0))) ∧ Hid (Own Y W.heap.size w6.heap.size 9 (.slice ao6 L6n cap6) (ss (l ++ [⟨#[120]⟩]))) ∧ Hid (Drawn W0 w g vb xs Y) ∧ Y.heap.size = w6.heap.size := by
   refine ⟨_, rfl, row_set L6 0 _, (Below.heap_setCell _ _ _ _ (by show w.heap.size ≠ w3.heap.size; omega)).trans R6, ?_, D6.on hg hgw ((Below.refl _ _).setCell (p := ⟨w3.heap.size, 0, none⟩) (by show w.heap.size ≤ w3.heap.size; omega) _), by simp [World.setCell]⟩
   show Own _ _ _ _ _ _
   rw [ss_app]
   exact keep1 ho6 (fun k hk => Below.heap_setCell _ _ _ _ (by show k ≠ w3.heap.size; intro h; subst h; exact hne hk))
  have HT : Hid (∀ s ∈ l ++ [(⟨#[120]⟩ : ByteArray)], s.size ≤ 3) := by
   intro s hs
   rcases List.mem_append.1 hs with h | h
   ·exact HLS.out s h
   ·simp at h
    subst h
    decide
  clear o1 c2 c3 c4 L5' L6 R6 D6 ho6 hb6 hg6 hne k0 k1 f0 f1 L5 R5 O5 D5 HLS hq1 hq2
  go_wp2_with (first | (rw [HY.out]; refine wpList_load_row rfl 28 _ rfl w3.heap.size rfl 28 (lc (.slice ao6 L6n cap6) M) (0, 0) _ YL.out Tryz.underlying28 rfl (sizeL _ _) ?_) | (refine wpList_store_row rfl 28 _ _ rfl w.heap.size (lc (.slice ao6 L6n cap6) M) rfl rfl 28 _ YR.out (sizeL _ _) rfl (oneL _ rfl) ?_))
  refine bodyPost_ret (v := .agg (lc (.slice ao6 L6n cap6) M)) (results_cell_row rfl _ _ w.heap.size 28 _ (0, 0) _ rfl (setRow_heap _ _ _ _ _ (0, 0) YR.out) Tryz.underlying28 rfl (sizeL _ _)) rfl ⟨_, (l ++ [⟨#[120]⟩]), M, rfl, by simp; omega, HT.out, hMz, ?_, ?_⟩
  ·exact (Own.setRow YO.out _ (by omega)).mono (by omega) (by rw [size_setRow]; omega)
  ·exact YD.out.on hg hgw (below_setRow (Below.refl _ _) (Nat.le_refl _) _)
 ·by_cases c1 : x = 1
  ·subst c1
   have hw1 : IntKind.i64.wrap (M.n + 1) = M.n + 1 := by rw [IntKind.wrap_i64]; omega
   obtain ⟨Y, HY, YL, YR, YO, YD, YZ⟩ : ∃ Y, Hid (w5.setCell ⟨w3.heap.size, 1, none⟩ (.int .i64 (M.n + 1)) = Y) ∧ Hid (Y.heap[w3.heap.size]? = some (.cells (lc (.slice ao2 L2 cap2) ⟨M.n + 1, M.r⟩) 28 (0, 0))) ∧ Hid (Y.heap[w.heap.size]? = some (.cells (lc (.slice none 0 0) hd0) 28 (0, 0))) ∧ Hid (Own Y W.heap.size w2.heap.size 9 (.slice ao2 L2 cap2) (ss l)) ∧ Hid (Drawn W0 w g vb xs Y) ∧ Y.heap.size = w5.heap.size :=
    ⟨_, rfl, row_set L5.out 1 _, (Below.heap_setCell _ _ _ _ (by show w.heap.size ≠ w3.heap.size; omega)).trans R5.out, Own.setCell O5.out _ (by omega), D5.out.on hg hgw ((Below.refl _ _).setCell (p := ⟨w3.heap.size, 1, none⟩) (by show w.heap.size ≤ w3.heap.size; omega) _), by simp [World.setCell]⟩
   clear L5 R5 O5 D5
   go_wp2_with (first | (rw [HY.out]; refine wpList_load_row rfl 28 _ rfl w3.heap.size rfl 28 (lc (.slice ao2 L2 cap2) ⟨M.n + 1, M.r⟩) (0, 0) _ YL.out Tryz.underlying28 rfl (sizeL _ _) ?_) | (refine wpList_store_row rfl 28 _ _ rfl w.heap.size (lc (.slice ao2 L2 cap2) ⟨M.n + 1, M.r⟩) rfl rfl 28 _ YR.out (sizeL _ _) rfl (oneL _ rfl) ?_))
   refine bodyPost_ret (v := .agg (lc (.slice ao2 L2 cap2) ⟨M.n + 1, M.r⟩)) (results_cell_row rfl _ _ w.heap.size 28 _ (0, 0) _ rfl (setRow_heap _ _ _ _ _ (0, 0) YR.out) Tryz.underlying28 rfl (sizeL _ _)) rfl ⟨_, l, ⟨M.n + 1, M.r⟩, rfl, by omega, HLS.out, hMz, ?_, ?_⟩
   ·exact (Own.setRow YO.out _ (by omega)).mono (by omega) (by rw [size_setRow]; omega)
   ·exact YD.out.on hg hgw (below_setRow (Below.refl _ _) (Nat.le_refl _) _)
  ·have n0 : (x == 0) = false := by simp [c0]
   have n1 : (x == 1) = false := by simp [c1]
   go_wp2_with (first | (refine wpList_load_row rfl 28 _ rfl w3.heap.size rfl 28 (lc (.slice ao2 L2 cap2) M) (0, 0) _ L5.out Tryz.underlying28 rfl (sizeL _ _) ?_) | (refine wpList_store_row rfl 28 _ _ rfl w.heap.size (lc (.slice ao2 L2 cap2) M) rfl rfl 28 _ R5.out (sizeL _ _) rfl (oneL _ rfl) ?_))
   refine bodyPost_ret (v := .agg (lc (.slice ao2 L2 cap2) M)) (results_cell_row rfl _ _ w.heap.size 28 _ (0, 0) _ rfl (setRow_heap _ _ _ _ _ (0, 0) R5.out) Tryz.underlying28 rfl (sizeL _ _)) rfl ⟨_, l, M, rfl, by omega, HLS.out, hMz, ?_, ?_⟩
   ·exact (Own.setRow O5.out _ (by omega)).mono (by omega) (by rw [size_setRow]; omega)
   ·exact D5.out.on hg hgw (below_setRow (Below.refl _ _) (Nat.le_refl _) _)
end Go.Proofs.YtchonoonclllbaaGreatDoor.Lg
namespace Go.Proofs.YtchonoonclllbaaGreatDoor.Draw
open Go.RowKit Mem Laws Bytes He
theorem Cur.keep {w w' : World} {g : Nat} {vb : Value} {n : Nat} (h : Cur w g vb n) (b : Below w.heap.size w w') : Cur w' g vb n := h.later b h.lt
theorem Cur.gro {w w' : World} {g : Nat} {vb : Value} {n : Nat} {r : Option Nat} (h : Cur w g vb n) (gr : w.grownBy w' r) (hne : r ≠ some g) : Cur w' g vb n := by
 obtain ⟨i, x, hr, hi⟩ := h
 exact ⟨i, x, rowGro hr gr hne, hi⟩
theorem Cur.groOwn {w w' : World} {g lo hi : Nat} {vb v : Value} {n : Nat} {e : TypeId} {cs : List Value} (h : Cur w g vb n) (o : Own w lo hi e v cs) (gr : w.grownBy w' v.ownBlock) (ht : 109 ≠ e) : Cur w' g vb n := by
 obtain ⟨i, x, hr, hi⟩ := h
 exact ⟨i, x, rowGro hr gr (Own.neRow o hr ht), hi⟩
theorem lit1 (w : World) (lo : Nat) (x : Int) (h : lo ≤ w.heap.size) : Own (w.alloc (.cells #[.int .u8 x] 5)) lo (w.alloc (.cells #[.int .u8 x] 5)).heap.size 5 (.slice (some ⟨w.heap.size, 0, none⟩) 1 1) (bs [x]) :=
 Own.of (World.ownsRow_lit w #[.int .u8 x] 1 h (by unfold maxLen; omega) rfl)
theorem Own.blockG {w : World} {lo hi n cap : Nat} {e : TypeId} {ao : Option Addr} {cs : List Value} (h : Own w lo hi e (.slice ao n cap) cs) (hp : 0 < n) : ∃ gb, ao = some ⟨gb, 0, none⟩ ∧ lo ≤ gb ∧ gb < hi ∧ (∃ cur, w.heap[gb]? = some (.cells cur e (0, 0)) ∧ 0 < cur.size) := by
 obtain ⟨⟨h1, h2⟩, h3⟩ := h
 rcases h2 with ⟨he, h0⟩ | ⟨g', cap', cur, he, hb, hg, hnc, hcm, hcs, ht⟩
 ·simp only [Value.slice.injEq] at he
  omega
 ·simp only [Value.slice.injEq] at he
  obtain ⟨rfl, rfl, rfl⟩ := he
  exact ⟨g', rfl, hb, h3 g' rfl, cur, hg, by omega⟩
theorem Own.cellAt {w : World} {lo hi gb n cap : Nat} {e : TypeId} {cs : List Value} (h : Own w lo hi e (.slice (some ⟨gb, 0, none⟩) n cap) cs) {j : Nat} {x : Value} (hj : cs[j]? = some x) : w.cell? ⟨gb, j, none⟩ = some x := by
 obtain ⟨⟨h1, h2⟩, h3⟩ := h
 rcases h2 with ⟨he, h0⟩ | ⟨g', cap', cur, he, hb, hg, hnc, hcm, hcs, ht⟩
 ·cases he
 ·simp only [Value.slice.injEq, Option.some.injEq, Addr.mk.injEq] at he
  obtain ⟨⟨rfl, _⟩, rfl, rfl⟩ := he
  rw [← ht, List.getElem?_take] at hj
  split at hj
  ·simpa [World.cell?, hg] using hj
  ·cases hj
theorem wp_elemG {P : Program} {op : Oper} {a : Act} {w : World} {K : Act → World → Prop} {Q : Exit → Act → World → Prop} (ty : TypeId) (x y : Operand) (ho : op.op = .store ty x y) {lo hi gb n cap k : Nat} {e : TypeId} {cs : List Value}
  (o : Own w lo hi e (.slice (some ⟨gb, 0, none⟩) n cap) cs) (hk : k < cs.length) (v : Value) (hx : a.eval x = .pointer (some ⟨gb, k, none⟩)) (hy : a.eval y = v) (hin : (P.info? ty).map (·.size) = some 1) (h1 : v.oneCell' = true)
  (h : ∀ w', Own w' lo hi e (.slice (some ⟨gb, 0, none⟩) n cap) (cs.set k v) → w.grownBy w' (some gb) → K (a.put op.dst undef) w') : op.wp P a w K Q := by
 obtain ⟨⟨e1, e2⟩, e3⟩ := o
 rcases e2 with ⟨he, _⟩ | ⟨g', cap', cur, he, hb, hg, hnc, hcm, hcs, ht⟩
 ·cases he
 ·simp only [Value.slice.injEq, Option.some.injEq, Addr.mk.injEq] at he
  obtain ⟨⟨rfl, _⟩, rfl, rfl⟩ := he
  refine wp_oneG ty x y ho gb k v hx hy cur.toList e (by simpa using hg) (by simp; omega) hin h1 (cur.toList.set k v) rfl ?_
  intro w' r g
  refine h w' ⟨⟨by simp, .inr ⟨gb, cap, (cur.toList.set k v).toArray, by simp, hb, r, by simpa using hnc, hcm, by simpa using hcs, ?_⟩⟩, e3⟩ g
  simp only [List.length_set]
  rw [List.take_set, ht]
end Go.Proofs.YtchonoonclllbaaGreatDoor.Draw
namespace Go.Proofs.YtchonoonclllbaaGreatDoor.Gets
open Go.RowKit Mem Plain
theorem ret3 {a a' b b' : Int} {c c' : Bool} (h1 : a = a') (h2 : b = b') (h3 : c = c') : Ending.returned (.tuple #[.int .i64 a, .int .i64 b, .bool c]) = .returned (.tuple #[.int .i64 a', .int .i64 b', .bool c']) := by rw [h1, h2, h3]
theorem getNum_out {xs : List Int} {at_ : Int} (h : at_ < 0 ∨ (xs.length : Int) ≤ at_) : getNum xs at_ = (0, 0, false) := by
 unfold getNum; rw [if_neg (by omega)]
theorem getNum_none {xs : List Int} {a : Nat} (ha : a < xs.length) (h : dec 0 0 1 (xs.drop a) = none) : getNum xs (a : Int) = (0, 0, false) := by
 unfold getNum; rw [if_pos (by omega)]; simp [h]
theorem getNum_some {xs : List Int} {a : Nat} {n : Int} {k : Nat} (ha : a < xs.length) (h : dec 0 0 1 (xs.drop a) = some (n, k)) : getNum xs (a : Int) = (n, (a : Int) + k, true) := by
 unfold getNum; rw [if_pos (by omega)]; simp [h]
theorem drop_at {xs : List Int} {a k : Nat} {c : Int} (h : xs[a + k]? = some c) : xs.drop (a + k) = c :: xs.drop (a + (k + 1)) := by
 obtain ⟨hk, rfl⟩ := List.getElem?_eq_some_iff.1 h
 rw [List.drop_eq_getElem_cons hk]; rfl
theorem dec_more {k : Nat} {N W c : Int} {r : List Int} (h5 : k ≠ 5) (hc : 128 ≤ c) : dec k N W (c :: r) = dec (k + 1) (N + c % 128 * W) (W * 128) r := by
 rw [dec, if_neg h5, if_pos hc]
theorem dec_five {N W c : Int} {r : List Int} : dec 5 N W (c :: r) = none := by rw [dec, if_pos rfl]
theorem dec_bad {k : Nat} {N W c : Int} {r : List Int} (h5 : k ≠ 5) (hc : c < 128) (hb : 1000000000 < N + c % 128 * W ∨ (0 < k ∧ c % 128 = 0)) : dec k N W (c :: r) = none := by
 rw [dec, if_neg h5, if_neg (by omega), if_pos hb]
theorem dec_good {k : Nat} {N W c : Int} {r : List Int} (h5 : k ≠ 5) (hc : c < 128) (hb : ¬ (1000000000 < N + c % 128 * W ∨ (0 < k ∧ c % 128 = 0))) : dec k N W (c :: r) = some (N + c % 128 * W, k + 1) := by
 rw [dec, if_neg h5, if_neg (by omega), if_neg hb]
theorem pow_bd {k : Nat} (hk : k < 5) : 1 ≤ (128 : Int) ^ k ∧ (128 : Int) ^ k ≤ 268435456 := by
 rcases (show k = 0 ∨ k = 1 ∨ k = 2 ∨ k = 3 ∨ k = 4 by omega) with rfl | rfl | rfl | rfl | rfl <;> decide
theorem prod_bd {c W : Int} (hW : 1 ≤ W) : 0 ≤ c % 128 * W ∧ c % 128 * W ≤ 127 * W :=
 ⟨Int.mul_nonneg (by omega) (by omega), Int.mul_le_mul_of_nonneg_right (by omega) (by omega)⟩
theorem get_impl (w : World) (v : Value) (xs : List Int) (at_ : Int) (h : Sl w v (bs xs)) (hb : Byt xs) (hx : xs.length ≤ 140737488355328) (hlo : -9223372036854775808 ≤ at_) (hhi : at_ ≤ 9223372036854775807) :
  Calls Tryz.prog 186 #[v, .int .i64 at_] w fun e w' => e = .returned (.tuple #[.int .i64 (getNum xs at_).1, .int .i64 (getNum xs at_).2.1, .bool (getNum xs at_).2.2]) ∧ w' = w := by
 obtain ⟨ao, cap, rfl, hc1, _, hr1⟩ := h
 rw [bs_len] at hr1 hc1
 rw [bs_len]
 by_cases h0 : at_ < 0
 ·have HG : Hid (getNum xs at_ = (0, 0, false)) := getNum_out (.inl h0)
  go_enter Tryz.func186, Tryz.ntmps186
  go_wp2
  go_ret3
  exact ⟨by rw [HG.out]; rfl, rfl⟩
 by_cases h1 : (xs.length : Int) ≤ at_
 ·have HG : Hid (getNum xs at_ = (0, 0, false)) := getNum_out (.inr h1)
  go_enter Tryz.func186, Tryz.ntmps186
  go_wp2
  go_ret3
  exact ⟨by rw [HG.out]; rfl, rfl⟩
 obtain ⟨a, rfl⟩ := Int.eq_ofNat_of_zero_le (show 0 ≤ at_ by omega)
 have ha : a < xs.length := by omega
 have hd0 : decide ((a : Int) < 0) = false := by simp
 obtain ⟨b, off, rfl, hcells⟩ := hr1 (by omega)
 clear h0 h1 hlo hhi
 go_enter Tryz.func186, Tryz.ntmps186
 go_wp2
 go_loop [7, 8, 24] (fun n wo i => ∃ (k : Nat) (N W : Int), k ≤ xs.length - a ∧ k ≤ 5 ∧ i = .int .i64 k ∧ n = .int .i64 N ∧ wo = .int .i64 W ∧ W = 128 ^ k ∧ 0 ≤ N ∧ N < W ∧ dec 0 0 1 (xs.drop a) = dec k N W (xs.drop (a + k))) (fun _ _ i => (xs.length - a) - (intOf i).toNat)
 case atStart => exact ⟨0, 0, 1, Nat.zero_le _, by omega, rfl, rfl, rfl, rfl, by omega, by omega, rfl⟩
 case round =>
  obtain ⟨k, N, W, hk, hk5, rfl, rfl, rfl, hW0, hN0, hN1, hD0⟩ := hrel
  have HD : Hid (W = 128 ^ k ∧ dec 0 0 1 (xs.drop a) = dec k N W (xs.drop (a + k))) := ⟨hW0, hD0⟩
  clear hD0 hW0
  by_cases hlt : k < xs.length - a
  ·obtain ⟨c, hc0⟩ : ∃ c, xs[a + k]? = some c := ⟨xs[a + k]'(by omega), by simp⟩
   have hcell : w.cell? ⟨b, off + a + k, none⟩ = some (.int .u8 c) := by
    rw [Nat.add_assoc, hcells (a + k) (by omega), bs_get, hc0]; rfl
   have hby := hb.at hc0
   have HC : Hid (xs.drop (a + k) = c :: xs.drop (a + (k + 1))) := drop_at hc0
   clear hcells hc0 hb
   by_cases h5 : k = 5
   ·have HR : Hid (getNum xs (a : Int) = (0, 0, false)) := getNum_none ha (by rw [HD.out.2, HC.out, h5]; exact dec_five)
    have h5' : ((k : Int) == 5) = true := by simp; omega
    clear HD HC h5
    go_wp2
    go_ret3
    exact ⟨by rw [HR.out]; rfl, rfl⟩
   have hWb : 1 ≤ W ∧ W ≤ 268435456 := by rw [HD.out.1]; exact pow_bd (by omega)
   have hpb := prod_bd (c := c) hWb.1
   have h5' : ((k : Int) == 5) = false := by simp; omega
   by_cases hge : 128 ≤ c
   ·have HR : Hid (W * 128 = 128 ^ (k + 1) ∧ dec 0 0 1 (xs.drop a) = dec (k + 1) (N + c % 128 * W) (W * 128) (xs.drop (a + (k + 1)))) :=
     ⟨by rw [HD.out.1, Int.pow_succ], by rw [HD.out.2, HC.out, dec_more h5 hge]⟩
    clear HD HC
    go_wp2
    go_round
    case rel => exact ⟨k + 1, N + c % 128 * W, W * 128, by omega, by omega, by go_num, rfl, rfl, HR.out.1, by omega, by omega, HR.out.2⟩
    case measure => simp [intOf]; omega
   ·have hlt8 : c < 128 := by omega
    by_cases hbig : 1000000000 < N + c % 128 * W
    ·have HR : Hid (getNum xs (a : Int) = (0, 0, false)) := getNum_none ha (by rw [HD.out.2, HC.out]; exact dec_bad h5 hlt8 (.inl hbig))
     have hdec : decide (1000000000 < N + c % 128 * W) = true := by simpa using hbig
     clear HD HC
     go_wp2
     go_ret3
     exact ⟨by rw [HR.out]; rfl, rfl⟩
    ·have hdec : decide (1000000000 < N + c % 128 * W) = false := by simpa using hbig
     by_cases hk0 : 0 < k
     ·have hdk : decide ((0 : Int) < (k : Int)) = true := by simpa using hk0
      by_cases hz : c % 128 = 0
      ·have HR : Hid (getNum xs (a : Int) = (0, 0, false)) := getNum_none ha (by rw [HD.out.2, HC.out]; exact dec_bad h5 hlt8 (.inr ⟨hk0, hz⟩))
       have hz' : (c % 128 == 0) = true := by simpa using hz
       clear HD HC hz
       go_wp2
       go_ret3
       exact ⟨by rw [HR.out]; rfl, rfl⟩
      ·have HR : Hid (getNum xs (a : Int) = (N + c % 128 * W, (a : Int) + ((k + 1 : Nat) : Int), true)) := getNum_some ha (by rw [HD.out.2, HC.out]; exact dec_good h5 hlt8 (by omega))
       have hz' : (c % 128 == 0) = false := by simpa using hz
       clear HD HC hz
       go_wp2
       go_ret3
       exact ⟨by rw [HR.out]; exact ret3 rfl (by dsimp only; omega) rfl, rfl⟩
     ·have hdk : decide ((0 : Int) < (k : Int)) = false := by simpa using hk0
      have HR : Hid (getNum xs (a : Int) = (N + c % 128 * W, (a : Int) + ((k + 1 : Nat) : Int), true)) := getNum_some ha (by rw [HD.out.2, HC.out]; exact dec_good h5 hlt8 (by omega))
      clear HD HC
      go_wp2
      go_ret3
      exact ⟨by rw [HR.out]; exact ret3 rfl (by dsimp only; omega) rfl, rfl⟩
  ·have HR : Hid (getNum xs (a : Int) = (0, 0, false)) := getNum_none ha (by rw [HD.out.2, List.drop_eq_nil_of_le (by omega)]; rfl)
   clear HD
   go_wp2
   go_ret3
   exact ⟨by rw [HR.out]; rfl, rfl⟩
theorem and127b {c : Int} (h : 0 ≤ c ∧ c ≤ 255) : bits .and .i64 c 127 = c % 128 := and127 h.1 (by omega)
theorem get_spec (w : World) (v : Value) (xs : List Int) (at_ : Int) (h : Sl w v (bs xs)) (hb : Byt xs) (hx : xs.length ≤ 140737488355328) (hlo : -9223372036854775808 ≤ at_) (hhi : at_ ≤ 9223372036854775807) :
  Calls Tryz.prog 175 #[v, .int .i64 at_] w fun e w' => e = .returned (.tuple #[.int .i64 (getNum xs at_).1, .int .i64 (getNum xs at_).2.1, .bool (getNum xs at_).2.2]) ∧ w' = w := by
 obtain ⟨ao, cap, rfl, hc1, _, hr1⟩ := h
 rw [bs_len] at hr1 hc1
 rw [bs_len]
 by_cases h0 : at_ < 0
 ·have HG : Hid (getNum xs at_ = (0, 0, false)) := getNum_out (.inl h0)
  have hd : decide (0 ≤ at_) = false := by simp; omega
  go_enter Tryz.func175, Tryz.ntmps175
  go_wp2
  refine wp_loop_rounds 1 ?_; rw [rounds_succ]
  go_wp2
  go_ret3
  exact ⟨by rw [HG.out]; rfl, rfl⟩
 by_cases h1 : (xs.length : Int) ≤ at_
 ·have HG : Hid (getNum xs at_ = (0, 0, false)) := getNum_out (.inr h1)
  have hd : decide (0 ≤ at_) = true := by simp; omega
  have hd2 : decide (at_ < (xs.length : Int)) = false := by simp; omega
  go_enter Tryz.func175, Tryz.ntmps175
  go_wp2
  refine wp_loop_rounds 1 ?_; rw [rounds_succ]
  go_wp2
  go_ret3
  exact ⟨by rw [HG.out]; rfl, rfl⟩
 obtain ⟨a, rfl⟩ := Int.eq_ofNat_of_zero_le (show 0 ≤ at_ by omega)
 have ha : a < xs.length := by omega
 obtain ⟨b, off, rfl, hcells⟩ := hr1 (by omega)
 clear h0 h1 hlo hhi
 have hda : decide ((0 : Int) ≤ (a : Int)) = true := by simp
 have hdb : decide ((a : Int) < (xs.length : Int)) = true := by simp; omega
 go_enter Tryz.func175, Tryz.ntmps175
 go_wp2
 go_loop [7, 8] (fun n i => ∃ (k : Nat) (N W : Int), a + k ≤ xs.length ∧ k ≤ 5 ∧ i = .int .i64 k ∧ n = .int .i64 N ∧ W = 128 ^ k ∧ 0 ≤ N ∧ N < W ∧ dec 0 0 1 (xs.drop a) = dec k N W (xs.drop (a + k))) (fun _ i => 5 - (intOf i).toNat)
 case atStart => exact ⟨0, 0, 1, by omega, by omega, rfl, rfl, rfl, by omega, by omega, rfl⟩
 case round =>
  obtain ⟨k, N, W, hk, hk5, rfl, rfl, hW0, hN0, hN1, hD0⟩ := hrel
  have HD : Hid (W = 128 ^ k ∧ dec 0 0 1 (xs.drop a) = dec k N W (xs.drop (a + k))) := ⟨hW0, hD0⟩
  clear hD0 hW0
  by_cases h5 : k = 5
  ·have h5' : decide ((k : Int) < 5) = false := by simp; omega
   have HR : Hid (getNum xs (a : Int) = (0, 0, false)) := by
    by_cases hlt : a + k < xs.length
    ·exact getNum_none ha (by subst h5; rw [HD.out.2, List.drop_eq_getElem_cons hlt]; exact dec_five)
    ·exact getNum_none ha (by rw [HD.out.2, List.drop_eq_nil_of_le (by omega)]; rfl)
   clear HD h5
   go_wp2
   go_ret3
   exact ⟨by rw [HR.out]; rfl, rfl⟩
  have h5' : decide ((k : Int) < 5) = true := by simp; omega
  by_cases hlt : a + k < xs.length
  ·have hlt' : decide ((a : Int) + (k : Int) < (xs.length : Int)) = true := by simp; omega
   obtain ⟨c, hc0⟩ : ∃ c, xs[a + k]? = some c := ⟨xs[a + k]'(by omega), by simp⟩
   have hcell : w.cell? ⟨b, off + (a + k), none⟩ = some (.int .u8 c) := by
    rw [hcells (a + k) (by omega), bs_get, hc0]; rfl
   have hby := hb.at hc0
   have HC : Hid (xs.drop (a + k) = c :: xs.drop (a + (k + 1))) := drop_at hc0
   clear hcells hc0 hb
   have hWb : 1 ≤ W ∧ W ≤ 268435456 := by rw [HD.out.1]; exact pow_bd (by omega)
   have hpb := prod_bd (c := c) hWb.1
   have hmask := and127b hby
   have hor : bits .or .i64 N (wrap64 (c % 128 * 2 ^ (7 * k))) = N + c % 128 * W := by
    have e : (128 : Int) ^ k = 2 ^ (7 * k) := by rw [Int.pow_mul]; rfl
    have hw : wrap64 (c % 128 * 2 ^ (7 * k)) = c % 128 * 2 ^ (7 * k) := IntWalk.wrap64_in _ (by rw [← e, ← HD.out.1]; omega)
    rw [hw, HD.out.1]; exact or_join (by omega) hN0 (by rw [← HD.out.1]; exact hN1) (by omega) (by omega)
   by_cases hge : 127 < c
   ·have HR : Hid (W * 128 = 128 ^ (k + 1) ∧ dec 0 0 1 (xs.drop a) = dec (k + 1) (N + c % 128 * W) (W * 128) (xs.drop (a + (k + 1)))) :=
     ⟨by rw [HD.out.1, Int.pow_succ], by rw [HD.out.2, HC.out, dec_more h5 (by omega)]⟩
    clear HD HC
    go_wp2
    go_round
    case rel => exact ⟨k + 1, N + c % 128 * W, W * 128, by omega, by omega, by go_num, rfl, HR.out.1, by omega, by omega, HR.out.2⟩
    case measure => simp [intOf]; omega
   ·have hlt8 : c < 128 := by omega
    by_cases hk0 : 0 < k
    ·have hdk : decide ((0 : Int) < (k : Int)) = true := by simpa using hk0
     by_cases hz : c = 0
     ·have HR : Hid (getNum xs (a : Int) = (0, 0, false)) := getNum_none ha (by rw [HD.out.2, HC.out]; exact dec_bad h5 hlt8 (.inr ⟨hk0, by omega⟩))
      have hz' : (c == 0) = true := by simpa using hz
      clear HD HC hz
      go_wp2
      go_ret3
      exact ⟨by rw [HR.out]; rfl, rfl⟩
     ·have hz' : (c == 0) = false := by simpa using hz
      by_cases hbig : 1000000000 < N + c % 128 * W
      ·have HR : Hid (getNum xs (a : Int) = (0, 0, false)) := getNum_none ha (by rw [HD.out.2, HC.out]; exact dec_bad h5 hlt8 (.inl hbig))
       have hdec : decide (1000000000 < N + c % 128 * W) = true := by simpa using hbig
       clear HD HC hz
       go_wp2
       go_ret3
       exact ⟨by rw [HR.out]; rfl, rfl⟩
      ·have HR : Hid (getNum xs (a : Int) = (N + c % 128 * W, (a : Int) + ((k + 1 : Nat) : Int), true)) := getNum_some ha (by rw [HD.out.2, HC.out]; exact dec_good h5 hlt8 (by omega))
       have hdec : decide (1000000000 < N + c % 128 * W) = false := by simpa using hbig
       clear HD HC hz
       go_wp2
       go_ret3
       exact ⟨by rw [HR.out]; exact ret3 rfl (by dsimp only; omega) rfl, rfl⟩
    ·have hdk : decide ((0 : Int) < (k : Int)) = false := by simpa using hk0
     by_cases hbig : 1000000000 < N + c % 128 * W
     ·have HR : Hid (getNum xs (a : Int) = (0, 0, false)) := getNum_none ha (by rw [HD.out.2, HC.out]; exact dec_bad h5 hlt8 (.inl hbig))
      have hdec : decide (1000000000 < N + c % 128 * W) = true := by simpa using hbig
      clear HD HC
      go_wp2
      go_ret3
      exact ⟨by rw [HR.out]; rfl, rfl⟩
     ·have HR : Hid (getNum xs (a : Int) = (N + c % 128 * W, (a : Int) + ((k + 1 : Nat) : Int), true)) := getNum_some ha (by rw [HD.out.2, HC.out]; exact dec_good h5 hlt8 (by omega))
      have hdec : decide (1000000000 < N + c % 128 * W) = false := by simpa using hbig
      clear HD HC
      go_wp2
      go_ret3
      exact ⟨by rw [HR.out]; exact ret3 rfl (by dsimp only; omega) rfl, rfl⟩
  ·have hlt' : decide ((a : Int) + (k : Int) < (xs.length : Int)) = false := by simp; omega
   have HR : Hid (getNum xs (a : Int) = (0, 0, false)) := getNum_none ha (by rw [HD.out.2, List.drop_eq_nil_of_le (by omega)]; rfl)
   clear HD
   go_wp2
   go_ret3
   exact ⟨by rw [HR.out]; rfl, rfl⟩
end Go.Proofs.YtchonoonclllbaaGreatDoor.Gets
