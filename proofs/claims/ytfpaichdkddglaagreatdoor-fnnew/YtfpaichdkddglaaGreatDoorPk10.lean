/- Texts in one: TrD, He6, Nth, LgD, Gro, Gro2, Crs, Gets, Plain3. -/
import Derived.Test.YtfpaichdkddglaaGreatDoorPk8
import Derived.Test.YtfpaichdkddglaaGreatDoorPk9
import Derived.Test.YtfpaichdkddglaaGreatDoorPk5
import Derived.Test.YtfpaichdkddglaaGreatDoorPk2
import Derived.Test.YtfpaichdkddglaaGreatDoorPk4
import Derived.Test.YtfpaichdkddglaaGreatDoorPk3
import Derived.Test.YtfpaichdkddglaaGreatDoorPk7
import Derived.Deep.MidRow
namespace Go.Proofs.YtfpaichdkddglaaGreatDoor.Tr
open Go.RowKit Go.Proofs.YtfpaichdkddglaaGreatDoor.Mem Go.Proofs.YtfpaichdkddglaaGreatDoor.Laws Go.Proofs.YtfpaichdkddglaaGreatDoor.Bytes Go.Proofs.YtfpaichdkddglaaGreatDoor.Sha Go.Proofs.YtfpaichdkddglaaGreatDoor.Draw
set_option linter.unusedVariables false
set_option linter.unusedSimpArgs false
def four6 : List ByteArray := [⟨#[]⟩, ⟨#[97]⟩, ⟨#[98]⟩, ⟨#[120, 121, 122]⟩]
theorem four6_size : ∀ s ∈ four6, s.size ≤ 3 := by decide
set_option maxRecDepth 1000000 in
set_option maxHeartbeats 1000000 in
theorem list_any (W0 w : World) (g : Nat) (vb : Value) (xs : List Int) (hs : Sl W0 vb (bs xs)) (hby : Byt xs) (hx : xs.length ≤ 140737488355328) (hB : Below W0.heap.size W0 w) (hg : W0.heap.size ≤ g) (hc : Cur w g vb xs.length) :
  Calls Tryz.prog 25 #[.pointer (some ⟨g, 0, none⟩)] w fun e w' => ∃ (v' : Value) (l : List ByteArray), e = .returned v' ∧ l.length ≤ 8 ∧ (∀ s ∈ l, s.size ≤ 3) ∧ Own w' w.heap.size w'.heap.size 9 v' (ss l) ∧ Drawn W0 w g vb xs w' := by
 obtain ⟨i0, hi, hz0, hz1, hz2⟩ := info_parts info9t
 have hgw := hc.lt
 have hd0 : Drawn W0 w g vb xs (w.alloc (.cells #[] 9)) := (Drawn.refl hB hc).on hg hgw ((Below.refl _ _).alloc (Nat.le_refl _) _)
 have ho0 := emptyT w w.heap.size (Nat.le_refl _)
 have hd00 : ∀ o, Drawn W0 w g vb xs ((w.alloc (.cells #[] 9)).alloc o) := fun o => hd0.on hg hgw ((Below.refl _ _).alloc (by simp) _)
 have ho00 : ∀ o, Own ((w.alloc (.cells #[] 9)).alloc o) w.heap.size ((w.alloc (.cells #[] 9)).alloc o).heap.size 9 _ (ss []) := fun o => ho0.alloc o
 go_enter Tryz.func25, Tryz.ntmps25
 go_wp2_with fail
 refine (int_any W0 _ g vb xs (w.heap.size + 1) [0, 1, 2, 3, 4, 5, 7, 8, 6] (by rw [← World.size_alloc w (.cells #[] 9)]; exact lit_block _ _ _) (by omega) (by simp) (by simp) hs hby hx (hd00 _).below hg (hd00 _).cur).mono ?_
 rintro e w1 ⟨x, rfl, xm, hd1⟩
 have hx8 : 0 ≤ x ∧ x ≤ 8 := by simp only [List.mem_cons, List.not_mem_nil, or_false] at xm; omega
 obtain ⟨n, rfl⟩ := Int.eq_ofNat_of_zero_le hx8.1
 have ho1 : Own w1 w.heap.size w1.heap.size 9 _ (ss []) := (Own.drawn (ho00 _) hd1 (.inl hgw) (Nat.le_refl _)).mono (Nat.le_refl _) hd1.apart.size
 have hd2 := (hd00 _).and hd1
 have hn8 : n ≤ 8 := by omega
 clear hd0 ho0 hd1 hd00 ho00 xm hx8
 go_wp2
 go_loopw [3, 4] (fun out i wr => ∃ (k : Nat) (l : List ByteArray), k ≤ 8 ∧ i = .int .i64 k ∧ l.length + k ≤ 8 ∧ (∀ s ∈ l, s.size ≤ 3) ∧ Own wr w.heap.size wr.heap.size 9 out (ss l) ∧ Drawn W0 w g vb xs wr) (fun _ i _ => (intOf i).toNat)
 case atStart => exact ⟨n, [], by omega, rfl, by simp; omega, fun s hs => (by cases hs), ho1, hd2⟩
 case round =>
  obtain ⟨k, l, hk, rfl, hll, hls, ho, hd⟩ := hrel
  have HY : Hid (∀ s ∈ l, s.size ≤ 3) := hls
  clear hls ho1 hd2
  by_cases hlt : 0 < k
  ·
   have hd3 : ∀ o, Drawn W0 w g vb xs (wr.alloc o) := fun o => hd.on hg hgw ((Below.refl _ _).alloc hd.apart.size _)
   have hgr : g < wr.heap.size := hd.cur.lt
   go_wp2_with fail
   refine (str_any W0 _ g vb xs wr.heap.size four6 (lit_block _ _ _) (by omega) (by decide) (by decide) hs hby hx (hd3 _).below hg (hd3 _).cur).mono ?_
   rintro e w2 ⟨s, rfl, hsm, hd4⟩
   have hsz := four6_size s hsm
   have ho2 : Own w2 w.heap.size w2.heap.size 9 _ (ss l) := (Own.drawn (ho.alloc _) hd4 (.inl hgw) (Nat.le_refl _)).mono (Nat.le_refl _) hd4.apart.size
   have hd5 := (hd3 _).and hd4
   have hsz2 : w.heap.size ≤ w2.heap.size := hd5.apart.size
   have c2 : (ss l).length + 1 ≤ maxLen := by rw [ss_len]; unfold maxLen; omega
   have c3 : ((ss l).length + 1) * 16 ≤ 140737488355328 := by rw [ss_len]; omega
   have c4 : ∀ o, w.heap.size ≤ (w2.alloc o).heap.size := fun o => by simp; omega
   clear hd3 hd4 ho hd
   go_wp2_with (at_builtin; go_must (refine wpl_app _ rfl (.tmp 13) (.tmp 17) 24 rfl 9 i0 (.string ⟨#[]⟩) 16 Tryz.underlying24 hi hz0 hz1 hz2 rfl w.heap.size _ (ss l) rfl (ho2.alloc _) _ rfl [.string s] (Sl.one _ _ _) (oneT _) c2 c3 (c4 _) ?_); intro v3 w3 ho3 hb3 hg3)
   have hd6 := hd5.on hg hgw (((Below.refl _ _).alloc hsz2 _).trans hb3)
   have ho4 : Own w3 w.heap.size w3.heap.size 9 v3 (ss (l ++ [s])) := by rw [ss_app]; exact ho3
   have HN : Hid (∀ z ∈ l ++ [s], z.size ≤ 3) := by
    intro z hz
    rcases List.mem_append.1 hz with hz | hz
    ·
     exact HY.out z hz
    ·
     rw [List.mem_singleton] at hz; rw [hz]; exact hsz
   go_roundw
   case rel => exact ⟨k - 1, l ++ [s], by omega, by go_num, by simp; omega, HN.out, ho4, hd6⟩
   case measure => simp [intOf]; omega
  ·
   go_wp2
   go_ret
   exact ⟨_, l, rfl, by omega, HY.out, ho, hd⟩
set_option maxRecDepth 1000000 in
set_option maxHeartbeats 1000000 in
theorem leaves_any (w : World) (vb : Value) (xs : List Int) (hs : Sl w vb (bs xs)) (hby : Byt xs) (hx : xs.length ≤ 140737488355328) :
  Calls Tryz.prog 7 #[vb] w fun e w' => ∃ (v' : Value) (l : List ByteArray) (i : Nat), e = .returned (.tuple #[v', .int .i64 (i : Int)]) ∧ 1 ≤ l.length ∧ l.length ≤ 9 ∧ i < l.length ∧ (∀ s ∈ l, s.size ≤ 3) ∧ Own w' w.heap.size w'.heap.size 9 v' (ss l) ∧ Below w.heap.size w w' := by
 obtain ⟨i0, hi, hz0, hz1, hz2⟩ := info_parts info9t
 go_enter Tryz.func7, Tryz.ntmps7
 go_wp2_with fail
 refine (new_any w vb xs hs hby hx).mono ?_
 rintro e w1 ⟨rfl, hd1⟩
 have g1 := hd1.cur.lt
 go_wp2_with fail
 refine (list_any w w1 w.heap.size vb xs hs hby hx hd1.below (Nat.le_refl _) hd1.cur).mono ?_
 rintro e w2 ⟨v2, l, rfl, hll, hls, ho2, hd2⟩
 have s2 := hd2.apart.size
 have c2 : (ss l).length + 1 ≤ maxLen := by rw [ss_len]; unfold maxLen; omega
 have c3 : ((ss l).length + 1) * 16 ≤ 140737488355328 := by rw [ss_len]; omega
 have c4 : ∀ o, w1.heap.size ≤ (w2.alloc o).heap.size := fun o => by simp; omega
 have HY : Hid (∀ s ∈ l, s.size ≤ 3) := hls
 clear hls
 go_wp2_with (at_builtin; go_must (refine wpl_app _ rfl (.tmp 9) (.tmp 10) 24 rfl 9 i0 (.string ⟨#[]⟩) 16 Tryz.underlying24 hi hz0 hz1 hz2 rfl w1.heap.size _ (ss l) rfl (ho2.alloc _) _ rfl [.string ⟨#[122]⟩] (Sl.one _ _ _) (oneT _) c2 c3 (c4 _) ?_))
 intro v3 w3 ho3 hb3 hg3
 have hd3 : Drawn w w1 w.heap.size vb xs w3 := hd2.on (Nat.le_refl _) g1 (((Below.refl _ _).alloc s2 _).trans hb3)
 have ho4 : Own w3 w1.heap.size w3.heap.size 9 v3 (ss (l ++ [⟨#[122]⟩])) := by rw [ss_app]; exact ho3
 have HN : Hid (∀ z ∈ l ++ [(⟨#[122]⟩ : ByteArray)], z.size ≤ 3) := by
  intro z hz
  rcases List.mem_append.1 hz with hz | hz
  ·
   exact HY.out z hz
  ·
   rw [List.mem_singleton] at hz; rw [hz]; decide
 obtain ⟨L, hL⟩ : ∃ L, l ++ [(⟨#[122]⟩ : ByteArray)] = L := ⟨_, rfl⟩
 have hLl : 1 ≤ L.length ∧ L.length ≤ 9 := by rw [← hL, List.length_append]; simp; omega
 rw [hL] at ho4 HN
 obtain ⟨ao, cap, rfl⟩ := ho4.len
 rw [ss_len] at *
 have HO4 : Hid _ := ho4
 clear hL ho2 ho3 hb3 hg3 hd2 HY c2 c3 c4 ho4
 go_wp2_with fail
 refine (below_any w w3 w.heap.size vb xs (L.length : Int) (by omega) (by omega) hs hby hx hd3.below (Nat.le_refl _) hd3.cur).mono ?_
 rintro e w4 ⟨x, rfl, x0, x1, hd4⟩
 obtain ⟨n, rfl⟩ := Int.eq_ofNat_of_zero_le x0
 have ho5 := Own.drawn HO4.out hd4 (.inl g1) (Nat.le_refl _)
 have s4 := hd4.apart.size
 have s1 := hd1.apart.size
 go_wp2
 go_ret2
 exact ⟨_, L, n, rfl, hLl.1, hLl.2, by omega, HN.out, ho5.mono s1 s4, hd4.below⟩
end Go.Proofs.YtfpaichdkddglaaGreatDoor.Tr
namespace Go.Proofs.YtfpaichdkddglaaGreatDoor.He
open Go.RowKit Go.Proofs.YtfpaichdkddglaaGreatDoor.Mem Go.Proofs.YtfpaichdkddglaaGreatDoor.Laws Go.Proofs.YtfpaichdkddglaaGreatDoor.Bytes Go.Proofs.YtfpaichdkddglaaGreatDoor.Sha Go.Proofs.YtfpaichdkddglaaGreatDoor.Tr Go.Proofs.YtfpaichdkddglaaGreatDoor.Draw
set_option linter.unusedVariables false
set_option linter.unusedSimpArgs false
set_option maxRecDepth 1000000 in
theorem once10 (W0 w : World) (g : Nat) (vb : Value) (xs : List Int) (n : Int) (hn1 : 1 ≤ n) (hn2 : n ≤ 9223372036854775807) (hs : Sl W0 vb (bs xs)) (hby : Byt xs) (hx : xs.length ≤ 140737488355328) (hB : Below W0.heap.size W0 w) (hg : W0.heap.size ≤ g) (hc : Cur w g vb xs.length) :
  Calls Tryz.prog 64 #[.pointer (some ⟨g, 0, none⟩), .int .i64 n] w fun e w' => ∃ b : Bool, e = .returned (.bool b) ∧ Drawn W0 w g vb xs w' := by
 go_enter Tryz.func64, Tryz.ntmps64
 go_wp2_with fail
 refine (below_any W0 _ g vb xs n hn1 hn2 hs hby hx hB hg hc).mono ?_
 rintro e w2 ⟨a, rfl, a0, a1, hd2⟩
 go_wp2_with fail
 go_ret
 exact ⟨_, rfl, hd2⟩
theorem Oh.drawn {W0 w w' : World} {g lo hi : Nat} {vb : Value} {xs : List Int} {v : Value} {t : List Hd} (h : Oh w lo hi v t) (hd : Drawn W0 w g vb xs w') (hgl : g < lo ∨ hi ≤ g) (hh : hi ≤ w.heap.size) : Oh w' lo hi v t :=
 On.apart h hd.apart (by omega) hh
theorem Oh.up {w w' : World} {lo : Nat} {v : Value} {t : List Hd} (h : Oh w lo w.heap.size v t) (hk : Oh w' lo w.heap.size v t) (hs : w.heap.size ≤ w'.heap.size) : Oh w' lo w'.heap.size v t := On.mono hk (Nat.le_refl _) hs
theorem Oh.none (w : World) (lo : Nat) (h : lo ≤ w.heap.size) : Oh (w.alloc (.cells #[] 28)) lo (w.alloc (.cells #[] 28)).heap.size (.slice (some ⟨w.heap.size, 0, none⟩) 0 0) [] := On.lit 2 w lo 28 h
theorem Sh.one (w : World) (h : Hd) : Sn 2 (w.alloc (.cells #[.int .i64 h.n, .string h.r] 28)) (.slice (some ⟨w.heap.size, 0, none⟩) 1 1) 1 h.cs := Sn.one 2 w (hc h) 28 rfl
theorem cs_one (h : Hd) : ∀ u ∈ h.cs, u.oneCell' = true := by
 intro u hu
 simp only [Hd.cs, List.mem_cons, List.not_mem_nil, or_false] at hu
 rcases hu with rfl | rfl <;> rfl
theorem Oh.snoc {w : World} {lo hi : Nat} {v : Value} {t : List Hd} {h : Hd} (o : On 2 w lo hi 28 v (t.length + 1) (hds t ++ h.cs)) : Oh w lo hi v (t ++ [h]) := by
 unfold Oh
 rw [hds_snoc, List.length_append]
 exact o
set_option maxRecDepth 1000000 in
set_option maxHeartbeats 4000000 in
theorem table_any (W0 w : World) (g : Nat) (vb : Value) (xs : List Int) (lo hi' : Nat) (v : Value) (l : List ByteArray) (hl : l.length ≤ 100) (hz : ∀ s ∈ l, s.size ≤ 3) (o : Own w lo hi' 9 v (ss l)) (hlo : g < lo) (hhi : hi' ≤ w.heap.size) (hs : Sl W0 vb (bs xs)) (hby : Byt xs) (hx : xs.length ≤ 140737488355328) (hB : Below W0.heap.size W0 w) (hg : W0.heap.size ≤ g) (hcu : Cur w g vb xs.length) :
  Calls Tryz.prog 62 #[.pointer (some ⟨g, 0, none⟩), v] w fun e w' => ∃ (v' : Value) (t : List Hd), e = .returned v' ∧ 1 ≤ t.length ∧ t.length ≤ l.length + 1 ∧ (∀ x ∈ t, x.r.size ≤ 32) ∧ Oh w' w.heap.size w'.heap.size v' t ∧ Drawn W0 w g vb xs w' := by
 obtain ⟨i0, hi, hz0, hz1, hz2⟩ := info_parts infoH
 have hgw := hcu.lt
 have HO : Hid (Own w lo hi' 9 v (ss l)) := o
 have hd0 : Drawn W0 w g vb xs (w.alloc (.cells #[] 28)) := (Drawn.refl hB hcu).on hg hgw ((Below.refl _ _).alloc (Nat.le_refl _) _)
 have ho0 := Oh.none w w.heap.size (Nat.le_refl _)
 have hl0 : Own (w.alloc (.cells #[] 28)) lo hi' 9 v (ss l) := o.later ((Below.refl _ _).alloc (Nat.le_refl _) _) hhi
 obtain ⟨ao, cap, rfl⟩ := o.len
 rw [ss_len] at *
 clear o
 go_enter Tryz.func62, Tryz.ntmps62
 go_wp2
 go_loopw [5, 6] (fun out nv wr => ∃ (k : Nat) (T : List Hd), k ≤ l.length + 1 ∧ nv = .int .i64 (k : Int) ∧ T.length ≤ k ∧ (k ≤ l.length ∨ 1 ≤ T.length) ∧ Hid (∀ x ∈ T, x.r.size ≤ 32) ∧ Hid (Oh wr w.heap.size wr.heap.size out T) ∧ Hid (Own wr lo hi' 9 (.slice ao l.length cap) (ss l)) ∧ Hid (Drawn W0 w g vb xs wr)) (fun _ nv _ => l.length + 1 - (intOf nv).toNat)
 case atStart => exact ⟨0, [], by omega, rfl, by simp, by omega, (fun x hx => by cases hx), ho0, hl0, hd0⟩
 case round =>
  obtain ⟨k, T, hk, rfl, hT, hT1, HZ, HT, HL, HD'⟩ := hrel
  clear hd0 ho0 hl0
  by_cases hlt : k ≤ l.length
  ·
   have hlt' : (k : Int) ≤ (l.length : Int) := by omega
   have q1 := once10 W0 wr g vb xs 3 (by omega) (by omega) hs hby hx HD'.out.below hg HD'.out.cur
   have zw : w.heap.size ≤ wr.heap.size := HD'.out.apart.size
   go_wp2_with fail
   refine q1.mono ?_
   rintro e w1 ⟨b, rfl, d1⟩
   have z1 : wr.heap.size ≤ w1.heap.size := d1.apart.size
   have HT1 : Hid (Oh w1 w.heap.size w1.heap.size _ T) := Oh.up HT.out (Oh.drawn HT.out d1 (.inl hgw) (Nat.le_refl _)) z1
   have HL1 : Hid (Own w1 lo hi' 9 (.slice ao l.length cap) (ss l)) := Own.drawn HL.out d1 (.inl hlo) (by omega)
   have HD1 : Hid (Drawn W0 w g vb xs w1) := HD'.out.and d1
   clear q1 d1 HT HL HD'
   have grow : ((b = false) ∨ k = l.length) ∨ (b = true ∧ k < l.length) := by
    cases b
    ·
     exact .inl (.inl rfl)
    ·
     by_cases hkl : k = l.length
     ·
      exact .inl (.inr hkl)
     ·
      exact .inr ⟨rfl, by omega⟩
   rcases grow with hgr | ⟨rfl, hkl⟩
   ·
    have s1 : Sl w1 (.slice ao k cap) (ss (l.take k)) := by rw [← ss_take]; exact HL1.out.sl.front k (by rw [ss_len]; omega)
    have q2 := headOf_spec w1 (.slice ao k cap) (l.take k) s1 (by rw [List.length_take]; omega) (fun s h => Nat.le_trans (hz s (List.mem_of_mem_take h)) (by omega))
    have zh := headOf_size (l.take k)
    obtain ⟨M, hM⟩ : ∃ M, headOf (l.take k) = M := ⟨_, rfl⟩
    rw [hM] at q2 zh
    have HC : Hid (l.length ≤ cap) := by
     obtain ⟨ao', cap', he, hc', _⟩ := HL1.out.sl
     simp only [Value.slice.injEq] at he
     obtain ⟨rfl, _, rfl⟩ := he
     rw [ss_len] at hc'
     exact hc'
    have hcp : (k : Int) ≤ (cap : Int) := by have := HC.out; omega
    have k1 : T.length + 1 ≤ maxLen := by unfold maxLen; omega
    have k2 : (T.length + 1) * 24 ≤ 140737488355328 := by omega
    clear hM s1
    have tail : b = false ∨ (b = true ∧ ((k : Int) == (l.length : Int)) = true) := by
     cases b
     ·
      exact .inl rfl
     ·
      refine .inr ⟨rfl, ?_⟩
      rcases hgr with h | h
      ·
       cases h
      ·
       rw [beq_iff_eq]; omega
    rcases tail with rfl | ⟨rfl, hkk⟩
    all_goals
     go_wp2_with fail
     refine q2.mono ?_
     rintro e w2 ⟨rfl, b2⟩
     have HT2 : Hid (Oh w2 w.heap.size w2.heap.size _ T) := Oh.up HT1.out (Oh.later HT1.out b2 (Nat.le_refl _)) b2.size
     have HL2 : Hid (Own w2 lo hi' 9 (.slice ao l.length cap) (ss l)) := HL1.out.later b2 (by omega)
     have HD2 : Hid (Drawn W0 w g vb xs w2) := HD1.out.on hg hgw (b2.mono (by omega))
     have z2 : w1.heap.size ≤ w2.heap.size := b2.size
     have k3 : ∀ ob, w.heap.size ≤ (w2.alloc ob).heap.size := fun ob => by simp; omega
     have O2 : ∀ ob, On 2 (w2.alloc ob) w.heap.size (w2.alloc ob).heap.size 28 _ T.length (hds T) := fun ob => On.alloc HT2.out ob
     clear q2 b2 HT1 HL1 HD1
     go_wp2_with (at_builtin; go_must (refine wpl_appn 2 (by omega) _ rfl (.tmp 23) (.tmp 28) 35 rfl 28 i0 (.agg #[.int .i64 0, .string ⟨#[]⟩]) 24 Tryz.underlying35 hi hz0 hz1 hz2 rfl w.heap.size _ T.length (hds T) rfl (O2 _) _ rfl 1 M.cs (Sh.one _ M) (cs_one M) k1 k2 (k3 _) ?_))
     intro v3 w3 o3 b3 _
     have HT3 : Hid (Oh w3 w.heap.size w3.heap.size v3 (T ++ [M])) := Oh.snoc o3
     have b23 : Below w.heap.size w2 w3 := ((Below.refl _ _).alloc (by omega) _).trans b3
     have HL3 : Hid (Own w3 lo hi' 9 (.slice ao l.length cap) (ss l)) := HL2.out.later b23 hhi
     have HD3 : Hid (Drawn W0 w g vb xs w3) := HD2.out.on hg hgw b23
     have HZ3 : Hid (∀ x ∈ T ++ [M], x.r.size ≤ 32) := by
      intro x hx
      rcases List.mem_append.1 hx with h | h
      ·
       exact HZ.out x h
      ·
       rw [List.mem_singleton] at h; rw [h]; exact zh
     clear O2 o3 b3 HT2 HL2 HD2 b23
     go_wp2
     go_roundw
     case rel => exact ⟨k + 1, T ++ [M], by omega, by go_num, by simp; omega, by simp, HZ3, HT3, HL3, HD3⟩
     case measure => simp [intOf]; omega
   ·
    have hkk : ((k : Int) == (l.length : Int)) = false := by rw [beq_eq_false_iff_ne]; omega
    go_wp2
    go_roundw
    case rel => exact ⟨k + 1, T, by omega, by go_num, by omega, by omega, HZ, HT1, HL1, HD1⟩
    case measure => simp [intOf]; omega
  ·
   have hlt' : ¬ (k : Int) ≤ (l.length : Int) := by omega
   go_wp2
   go_ret
   first | exact ⟨_, T, rfl, by omega, by omega, HZ.out, HT.out, HD'.out⟩ | exact ⟨_, rfl, T, by omega, by omega, HZ.out, HT.out, HD'.out⟩
end Go.Proofs.YtfpaichdkddglaaGreatDoor.He
namespace Go.Proofs.YtfpaichdkddglaaGreatDoor.Mem
open Go.RowKit
set_option linter.unusedVariables false
set_option linter.unusedSimpArgs false
theorem alloc_nth1_0 (w : World) (O0 : Obj) : (w.alloc O0).heap[w.heap.size]? = some O0 := by
 exact heap_alloc_new w O0
theorem alloc_nth2_0 (w : World) (O0 O1 : Obj) : ((w.alloc O0).alloc O1).heap[w.heap.size]? = some O0 := by
 rw [heap_alloc_old _ _ (by simp; try omega)]
 exact alloc_nth1_0 w O0
theorem alloc_nth2_1 (w : World) (O0 O1 : Obj) : ((w.alloc O0).alloc O1).heap[w.heap.size + 1]? = some O1 := by
 have h := heap_alloc_new (w.alloc O0) O1
 simpa using h
theorem alloc_nth3_0 (w : World) (O0 O1 O2 : Obj) : (((w.alloc O0).alloc O1).alloc O2).heap[w.heap.size]? = some O0 := by
 rw [heap_alloc_old _ _ (by simp; try omega)]
 exact alloc_nth2_0 w O0 O1
theorem alloc_nth3_1 (w : World) (O0 O1 O2 : Obj) : (((w.alloc O0).alloc O1).alloc O2).heap[w.heap.size + 1]? = some O1 := by
 rw [heap_alloc_old _ _ (by simp; try omega)]
 exact alloc_nth2_1 w O0 O1
theorem alloc_nth3_2 (w : World) (O0 O1 O2 : Obj) : (((w.alloc O0).alloc O1).alloc O2).heap[w.heap.size + 1 + 1]? = some O2 := by
 have h := heap_alloc_new ((w.alloc O0).alloc O1) O2
 simpa using h
theorem alloc_nth4_0 (w : World) (O0 O1 O2 O3 : Obj) : ((((w.alloc O0).alloc O1).alloc O2).alloc O3).heap[w.heap.size]? = some O0 := by
 rw [heap_alloc_old _ _ (by simp; try omega)]
 exact alloc_nth3_0 w O0 O1 O2
theorem alloc_nth4_1 (w : World) (O0 O1 O2 O3 : Obj) : ((((w.alloc O0).alloc O1).alloc O2).alloc O3).heap[w.heap.size + 1]? = some O1 := by
 rw [heap_alloc_old _ _ (by simp; try omega)]
 exact alloc_nth3_1 w O0 O1 O2
theorem alloc_nth4_2 (w : World) (O0 O1 O2 O3 : Obj) : ((((w.alloc O0).alloc O1).alloc O2).alloc O3).heap[w.heap.size + 1 + 1]? = some O2 := by
 rw [heap_alloc_old _ _ (by simp; try omega)]
 exact alloc_nth3_2 w O0 O1 O2
theorem alloc_nth4_3 (w : World) (O0 O1 O2 O3 : Obj) : ((((w.alloc O0).alloc O1).alloc O2).alloc O3).heap[w.heap.size + 1 + 1 + 1]? = some O3 := by
 have h := heap_alloc_new (((w.alloc O0).alloc O1).alloc O2) O3
 simpa using h
theorem alloc_nth5_0 (w : World) (O0 O1 O2 O3 O4 : Obj) : (((((w.alloc O0).alloc O1).alloc O2).alloc O3).alloc O4).heap[w.heap.size]? = some O0 := by
 rw [heap_alloc_old _ _ (by simp; try omega)]
 exact alloc_nth4_0 w O0 O1 O2 O3
theorem alloc_nth5_1 (w : World) (O0 O1 O2 O3 O4 : Obj) : (((((w.alloc O0).alloc O1).alloc O2).alloc O3).alloc O4).heap[w.heap.size + 1]? = some O1 := by
 rw [heap_alloc_old _ _ (by simp; try omega)]
 exact alloc_nth4_1 w O0 O1 O2 O3
theorem alloc_nth5_2 (w : World) (O0 O1 O2 O3 O4 : Obj) : (((((w.alloc O0).alloc O1).alloc O2).alloc O3).alloc O4).heap[w.heap.size + 1 + 1]? = some O2 := by
 rw [heap_alloc_old _ _ (by simp; try omega)]
 exact alloc_nth4_2 w O0 O1 O2 O3
theorem alloc_nth5_3 (w : World) (O0 O1 O2 O3 O4 : Obj) : (((((w.alloc O0).alloc O1).alloc O2).alloc O3).alloc O4).heap[w.heap.size + 1 + 1 + 1]? = some O3 := by
 rw [heap_alloc_old _ _ (by simp; try omega)]
 exact alloc_nth4_3 w O0 O1 O2 O3
theorem alloc_nth5_4 (w : World) (O0 O1 O2 O3 O4 : Obj) : (((((w.alloc O0).alloc O1).alloc O2).alloc O3).alloc O4).heap[w.heap.size + 1 + 1 + 1 + 1]? = some O4 := by
 have h := heap_alloc_new ((((w.alloc O0).alloc O1).alloc O2).alloc O3) O4
 simpa using h
end Go.Proofs.YtfpaichdkddglaaGreatDoor.Mem
namespace Go.Proofs.YtfpaichdkddglaaGreatDoor.Lg
open Go.RowKit Go.Proofs.YtfpaichdkddglaaGreatDoor.Mem Go.Proofs.YtfpaichdkddglaaGreatDoor.Laws Go.Proofs.YtfpaichdkddglaaGreatDoor.Bytes Go.Proofs.YtfpaichdkddglaaGreatDoor.Sha Go.Proofs.YtfpaichdkddglaaGreatDoor.Tr Go.Proofs.YtfpaichdkddglaaGreatDoor.Draw Go.Proofs.YtfpaichdkddglaaGreatDoor.He
set_option linter.unusedVariables false
set_option linter.unusedSimpArgs false
theorem drawn_row {W0 w w' : World} {g k : Nat} {vb : Value} {xs : List Int} {o : Obj} (h : w.heap[k]? = some o) (d : Drawn W0 w g vb xs w') (hk : k ≠ g) : w'.heap[k]? = some o :=
 (d.apart.block k (Array.getElem?_eq_some_iff.1 h).1 (by omega)).trans h
end Go.Proofs.YtfpaichdkddglaaGreatDoor.Lg
namespace Go.Proofs.YtfpaichdkddglaaGreatDoor.Mem
open Go.RowKit Go.Proofs.YtfpaichdkddglaaGreatDoor.Laws
set_option linter.unusedVariables false
set_option linter.unusedSimpArgs false
theorem Own.gro {w w' : World} {lo hi : Nat} {e : TypeId} {v : Value} {cs : List Value} {r : Option Nat} (h : Own w lo hi e v cs) (g : w.grownBy w' r) (hne : ∀ k, v.ownBlock = some k → r ≠ some k) : Own w' lo hi e v cs := by
 obtain ⟨⟨h1, h2⟩, h3⟩ := h
 refine ⟨⟨h1, ?_⟩, h3⟩
 rcases h2 with h2 | ⟨b, cap, cur, rfl, hb, hg, q⟩
 ·
  exact .inl h2
 ·
  exact .inr ⟨b, cap, cur, rfl, hb, by rw [g.block b (Array.getElem?_eq_some_iff.1 hg).1 (fun e => hne b rfl e.symm)]; exact hg, q⟩
theorem rowGro {w w' : World} {k : Nat} {o : Obj} {r : Option Nat} (h : w.heap[k]? = some o) (g : w.grownBy w' r) (hne : r ≠ some k) : w'.heap[k]? = some o := by
 rw [g.block k (Array.getElem?_eq_some_iff.1 h).1 (fun e => hne e.symm)]
 exact h
theorem cellGro {w w' : World} {p : Addr} {x : Value} {r : Option Nat} (h : w.cell? p = some x) (g : w.grownBy w' r) (hne : r ≠ some p.block) : w'.cell? p = some x := g.cell h (fun e => hne e.symm)
theorem belowGro {w0 w w' : World} {n : Nat} {r : Option Nat} (h : Below n w0 w) (g : w.grownBy w' r) (hn : n ≤ w.heap.size) (hr : ∀ k, r = some k → n ≤ k) : Below n w0 w' := h.grown g hn hr
theorem Own.neRow {w : World} {lo hi g : Nat} {e t : TypeId} {v : Value} {cs : List Value} {cs' : Array Value} {fr : Nat × Nat} (h : Own w lo hi e v cs) (hr : w.heap[g]? = some (.cells cs' t fr)) (ht : t ≠ e) : v.ownBlock ≠ some g := by
 intro hv
 obtain ⟨⟨h1, h2⟩, h3⟩ := h
 rcases h2 with ⟨rfl, _⟩ | ⟨g', cap, cur, rfl, hb, hg, r⟩
 ·
  simp [Value.ownBlock] at hv
 ·
  simp [Value.ownBlock] at hv
  subst hv
  rw [hg] at hr
  simp at hr
  exact ht hr.2.1.symm
theorem Own.neOwn {w : World} {lo hi lo' hi' : Nat} {e e' : TypeId} {v v' : Value} {cs cs' : List Value} (h : Own w lo hi e v cs) (h' : Own w lo' hi' e' v' cs') (he : e' ≠ e) : ∀ k, v'.ownBlock = some k → v.ownBlock ≠ some k := by
 intro k hk
 obtain ⟨⟨h1, h2⟩, h3⟩ := h'
 rcases h2 with ⟨rfl, _⟩ | ⟨g, cap, cur, rfl, hb, hg, r⟩
 ·
  simp [Value.ownBlock] at hk
 ·
  simp [Value.ownBlock] at hk
  subst hk
  exact Own.neRow h hg he
theorem Own.neFar {w : World} {lo hi lo' hi' : Nat} {e e' : TypeId} {v v' : Value} {cs cs' : List Value} (h : Own w lo hi e v cs) (h' : Own w lo' hi' e' v' cs') (hd : hi ≤ lo' ∨ hi' ≤ lo) : ∀ k, v'.ownBlock = some k → v.ownBlock ≠ some k := by
 intro k hk hv
 have a1 := h.2 k hv
 have a2 := (h.1.lt k hv).1
 have a3 := h'.2 k hk
 have a4 := (h'.1.lt k hk).1
 omega
theorem Own.low {w : World} {lo hi : Nat} {e : TypeId} {v : Value} {cs : List Value} (h : Own w lo hi e v cs) {n : Nat} (hn : n ≤ lo) : ∀ k, v.ownBlock = some k → n ≤ k := fun k hk => Nat.le_trans hn (h.1.lt k hk).1
theorem step_appG {P : Program} {ops : Array Oper} {o : Oper} {a : Act} {w : World} {K : Act → World → Prop} {Q : Exit → Act → World → Prop} {E : Prop}
  (hw : Region.wanted o (yielded ops a.tmps) = true) (s x : Operand) (t : TypeId) (hop : o.op = Op.call { callee := Callee.builtin Builtin.append, args := #[s, x], argTypes := #[t, t] })
  (e : TypeId) (i : TypeInfo) (z : Value) (bytes : Nat) (ht : P.underlying t = some (.slice e)) (hi : P.info? e = some i) (hz : i.zero = some z) (hsize : i.size = 1) (hby : i.bytes = bytes) (hzs : z.cells.size = 1)
  (lo : Nat) (v : Value) (cs : List Value) (hs : a.eval s = v) (hown : Own w lo w.heap.size e v cs) (y : Value) (hx : a.eval x = y) (news : List Value) (hsl : Sl w y news)
  (h1 : ∀ u ∈ news, u.oneCell' = true) (h63 : cs.length + news.length ≤ maxLen) (hb : (cs.length + news.length) * bytes ≤ 140737488355328) (hlo : lo ≤ w.heap.size)
  (hK : ∀ v' w', Own w' lo w'.heap.size e v' (cs ++ news) → w.grownBy w' v.ownBlock → K (a.put o.dst v') w') : if Region.wanted o (yielded ops a.tmps) = true then Oper.wp P o a w K Q else E := by
 rw [if_pos hw]
 obtain ⟨ao, cap, rfl, hc, hn, hr⟩ := hsl
 cases ao with
 | none =>
  have hcap := hn rfl
  have hnil : news = [] := List.eq_nil_of_length_eq_zero (by omega)
  subst hnil
  subst hcap
  have hrun := run_append_owned_none (P := P) (w := w) lo t o.type e i 1 ht hi v cs.length cs hown.1
  unfold Oper.wp
  simp [execOp, hop, resolve, invoke, builtin, hs, hx, hrun, Result.andThen]
  exact hK v w (by simpa using hown) (World.grownBy.refl _ _)
 | some ad =>
  refine wp_append_own w s x t hop lo e i z 1 bytes ht hi hz hsize hby hzs (by decide) v cs.length cs hs hown.1 ad news.length cap news hx (by simp) ?_ h1 h63 hb hlo ?_
  ·
   intro j u hj
   have hlt : j < news.length := (List.getElem?_eq_some_iff.1 hj).1
   obtain ⟨b, off, he, hcell⟩ := hr (by omega)
   obtain rfl := Option.some.inj he
   rw [Addr.add_lit, hcell j hlt, hj]
  ·
   intro v' w' ho hgr _
   exact hK v' w' (Own.of ho) hgr
theorem wpl_strG {P : Program} (w : World) {ops : Array Oper} {rest : List Oper} {o : Oper} {a : Act} {Q : Exit → Act → World → Prop}
  (hg : o.guard = none) (s x : Operand) (t u : TypeId) (hop : o.op = Op.call { callee := Callee.builtin Builtin.append, args := #[s, x], argTypes := #[t, u] })
  (e : TypeId) (i : TypeInfo) (ht : P.underlying t = some (.slice e)) (hu : P.underlying u = some .string) (hi : P.info? e = some i) (hz : i.zero = some (.int .u8 0)) (hsize : i.size = 1) (hby : i.bytes = 1)
  (lo : Nat) (v : Value) (xs : List Int) (hs : a.eval s = v) (hown : Own w lo w.heap.size e v (bs xs)) (y : ByteArray) (hx : a.eval x = .string y)
  (hb : xs.length + y.size ≤ 140737488355328) (hlo : lo ≤ w.heap.size)
  (hK : ∀ v' w', Own w' lo w'.heap.size e v' (bs (xs ++ sb y)) → w.grownBy w' v.ownBlock → wpList P ops Q rest (a.put o.dst v') w') : wpList P ops Q (o :: rest) a w := by
 refine Lib.wpList_append_own_string w hg s x t u hop lo e i ht hu hi hz hsize hby v (bs xs).length (bs xs) hs hown.1 y hx (by rw [bs_len]; unfold maxLen; omega) (by rw [bs_len]; omega) hlo ?_
 intro v' w' ho hgr _
 rw [sb_cells, ← bs_app] at ho
 exact hK v' w' (Own.of ho) hgr
theorem gro_setCells (w : World) (g o : Nat) (vs : List Value) : w.grownBy (w.setCells g o vs) (some g) := by
 have h : ∀ (vs : List Value) (o : Nat) (w : World), (w.setCells g o vs).os = w.os ∧ (w.setCells g o vs).tape = w.tape ∧ (w.setCells g o vs).output = w.output := by
  intro vs
  induction vs with
  | nil => intro o w; exact ⟨rfl, rfl, rfl⟩
  | cons v r ih => intro o w; rw [World.setCells]; exact ih (o + 1) _
 obtain ⟨h1, h2, h3⟩ := h vs o w
 exact ⟨h1, h2, h3, by rw [size_setCells]; exact Nat.le_refl _, fun k _ hk => heap_setCells_other g k (fun e => hk (by rw [e])) vs o w⟩
theorem wp_partG {P : Program} {op : Oper} {a : Act} {w : World} {K : Act → World → Prop} {Q : Exit → Act → World → Prop} (ty : TypeId) (x y : Operand) (ho : op.op = .store ty x y)
  (b o : Nat) (cells : Array Value) (hx : a.eval x = .pointer (some ⟨b, o, none⟩)) (hy : a.eval y = .agg cells) (cur : List Value) (t : TypeId) (hr : w.heap[b]? = some (.cells cur.toArray t (0, 0)))
  (hn : o + cells.size ≤ cur.length) (hi : (P.info? ty).map (·.size) = some cells.size) (h1 : cells.all (·.oneCell') = true) (new : List Value) (hnew : putL cur o cells.toList = new)
  (h : ∀ w', w'.heap[b]? = some (.cells new.toArray t (0, 0)) → w.grownBy w' (some b) → K (a.put op.dst undef) w') : op.wp P a w K Q := by
 refine wp_store_mid ty x y ho b o cells hx hy (there_row hr (by simpa using hn)) hi h1 (h _ ?_ (gro_setCells _ _ _ _))
 rw [← hnew]
 exact heap_setCells b cells.toList o w cur t hr
theorem wpl_partG {P : Program} {ops : Array Oper} {rest : List Oper} {op : Oper} {a : Act} {w : World} {Q : Exit → Act → World → Prop} (hgd : op.guard = none) (ty : TypeId) (x y : Operand) (ho : op.op = .store ty x y)
  (b o : Nat) (cells : Array Value) (hx : a.eval x = .pointer (some ⟨b, o, none⟩)) (hy : a.eval y = .agg cells) (cur : List Value) (t : TypeId) (hr : w.heap[b]? = some (.cells cur.toArray t (0, 0)))
  (hn : o + cells.size ≤ cur.length) (hi : (P.info? ty).map (·.size) = some cells.size) (h1 : cells.all (·.oneCell') = true) (new : List Value) (hnew : putL cur o cells.toList = new)
  (h : ∀ w', w'.heap[b]? = some (.cells new.toArray t (0, 0)) → w.grownBy w' (some b) → wpList P ops Q rest (a.put op.dst undef) w') : wpList P ops Q (op :: rest) a w :=
 wpList_plain hgd fun _ hK => wp_partG ty x y ho b o cells hx hy cur t hr hn hi h1 new hnew (fun w' r g => hK _ _ (h w' r g))
theorem wp_oneG {P : Program} {op : Oper} {a : Act} {w : World} {K : Act → World → Prop} {Q : Exit → Act → World → Prop} (ty : TypeId) (x y : Operand) (ho : op.op = .store ty x y)
  (b o : Nat) (v : Value) (hx : a.eval x = .pointer (some ⟨b, o, none⟩)) (hy : a.eval y = v) (cur : List Value) (t : TypeId) (hr : w.heap[b]? = some (.cells cur.toArray t (0, 0)))
  (hn : o + 1 ≤ cur.length) (hi : (P.info? ty).map (·.size) = some 1) (h1 : v.oneCell' = true) (new : List Value) (hnew : putL cur o [v] = new)
  (h : ∀ w', w'.heap[b]? = some (.cells new.toArray t (0, 0)) → w.grownBy w' (some b) → K (a.put op.dst undef) w') : op.wp P a w K Q := by
 have ht := there_row (n := 1) hr (by simpa using hn)
 have hc : v.cells = #[v] := by cases v <;> first | rfl | cases h1
 have hrun : (storeVar ty ⟨b, o, none⟩ v).run P w = .ok () (w.setCells b o [v]) := by
  have := run_storeCells_cells (P := P) b o [v] 0 w (fun j hj => by simpa using (ht j (by simpa using hj)).1) (fun j hj => by simpa using (ht j (by simpa using hj)).2) (fun u hu => by simp at hu; subst hu; exact h1)
  cases hq : P.info? ty with
  | none => simp [hq] at hi
  | some i =>
   have hs : i.size = 1 := by simpa [hq] using hi
   simp only [Nat.add_zero] at this
   simp [storeVar, sizeOf, typeInfo, hq, hc, hs, this]
 have hK := h (w.setCells b o [v]) (by rw [← hnew]; exact heap_setCells b [v] o w cur t hr) (gro_setCells _ _ _ _)
 unfold Oper.wp execOp
 simp only [ho, hx, hy, Instr.storeAt, Instr.sureAddr, Sem.run_bind, Sem.run_pure, Result.andThen_ok, hrun]
 exact hK
theorem wpl_oneG {P : Program} {ops : Array Oper} {rest : List Oper} {op : Oper} {a : Act} {w : World} {Q : Exit → Act → World → Prop} (hgd : op.guard = none) (ty : TypeId) (x y : Operand) (ho : op.op = .store ty x y)
  (b o : Nat) (v : Value) (hx : a.eval x = .pointer (some ⟨b, o, none⟩)) (hy : a.eval y = v) (cur : List Value) (t : TypeId) (hr : w.heap[b]? = some (.cells cur.toArray t (0, 0)))
  (hn : o + 1 ≤ cur.length) (hi : (P.info? ty).map (·.size) = some 1) (h1 : v.oneCell' = true) (new : List Value) (hnew : putL cur o [v] = new)
  (h : ∀ w', w'.heap[b]? = some (.cells new.toArray t (0, 0)) → w.grownBy w' (some b) → wpList P ops Q rest (a.put op.dst undef) w') : wpList P ops Q (op :: rest) a w :=
 wpList_plain hgd fun _ hK => wp_oneG ty x y ho b o v hx hy cur t hr hn hi h1 new hnew (fun w' r g => hK _ _ (h w' r g))
end Go.Proofs.YtfpaichdkddglaaGreatDoor.Mem
namespace Go.Proofs.YtfpaichdkddglaaGreatDoor.Draw
open Go.RowKit Go.Proofs.YtfpaichdkddglaaGreatDoor.Mem Go.Proofs.YtfpaichdkddglaaGreatDoor.Laws Go.Proofs.YtfpaichdkddglaaGreatDoor.Bytes Go.Proofs.YtfpaichdkddglaaGreatDoor.He
set_option linter.unusedVariables false
set_option linter.unusedSimpArgs false
theorem Cur.keep {w w' : World} {g : Nat} {vb : Value} {n : Nat} (h : Cur w g vb n) (b : Below w.heap.size w w') : Cur w' g vb n := h.later b h.lt
theorem Cur.gro {w w' : World} {g : Nat} {vb : Value} {n : Nat} {r : Option Nat} (h : Cur w g vb n) (gr : w.grownBy w' r) (hne : r ≠ some g) : Cur w' g vb n := by
 obtain ⟨i, x, hr, hi⟩ := h
 exact ⟨i, x, rowGro hr gr hne, hi⟩
theorem Cur.groOwn {w w' : World} {g lo hi : Nat} {vb v : Value} {n : Nat} {e : TypeId} {cs : List Value} (h : Cur w g vb n) (o : Own w lo hi e v cs) (gr : w.grownBy w' v.ownBlock) (ht : 73 ≠ e) : Cur w' g vb n := by
 obtain ⟨i, x, hr, hi⟩ := h
 exact ⟨i, x, rowGro hr gr (Own.neRow o hr ht), hi⟩
theorem Own.blockG {w : World} {lo hi n cap : Nat} {e : TypeId} {ao : Option Addr} {cs : List Value} (h : Own w lo hi e (.slice ao n cap) cs) (hp : 0 < n) : ∃ gb, ao = some ⟨gb, 0, none⟩ ∧ lo ≤ gb ∧ gb < hi ∧ (∃ cur, w.heap[gb]? = some (.cells cur e (0, 0)) ∧ 0 < cur.size) := by
 obtain ⟨⟨h1, h2⟩, h3⟩ := h
 rcases h2 with ⟨he, h0⟩ | ⟨g', cap', cur, he, hb, hg, hnc, hcm, hcs, ht⟩
 ·
  simp only [Value.slice.injEq] at he
  omega
 ·
  simp only [Value.slice.injEq] at he
  obtain ⟨rfl, rfl, rfl⟩ := he
  exact ⟨g', rfl, hb, h3 g' rfl, cur, hg, by omega⟩
theorem Own.cellAt {w : World} {lo hi gb n cap : Nat} {e : TypeId} {cs : List Value} (h : Own w lo hi e (.slice (some ⟨gb, 0, none⟩) n cap) cs) {j : Nat} {x : Value} (hj : cs[j]? = some x) : w.cell? ⟨gb, j, none⟩ = some x := by
 obtain ⟨⟨h1, h2⟩, h3⟩ := h
 rcases h2 with ⟨he, h0⟩ | ⟨g', cap', cur, he, hb, hg, hnc, hcm, hcs, ht⟩
 ·
  cases he
 ·
  simp only [Value.slice.injEq, Option.some.injEq, Addr.mk.injEq] at he
  obtain ⟨⟨rfl, _⟩, rfl, rfl⟩ := he
  rw [← ht, List.getElem?_take] at hj
  split at hj
  ·
   simpa [World.cell?, hg] using hj
  ·
   cases hj
def atV (xs : List Int) (i : Nat) : Nat := ((xs[i]?).getD (((i : Int) * 31 + (xs.length : Int) * 7) % 256)).toNat
theorem atV_le {xs : List Int} (hb : Byt xs) (i : Nat) : atV xs i ≤ 255 := by
 unfold atV
 cases h : xs[i]? with
 | none => simp only [Option.getD_none]; omega
 | some c => have := hb c (List.mem_of_getElem? h); simp only [Option.getD_some]; omega
set_option maxRecDepth 1000000 in
set_option maxHeartbeats 1000000 in
theorem at_val (w : World) (v : Value) (xs : List Int) (i : Nat) (hs : Sl w v (bs xs)) (hby : Byt xs) (hx : xs.length ≤ 1048576) (hi : i ≤ 100) :
  Calls Tryz.prog 22 #[v, .int .i64 (i : Int)] w fun e w' => e = .returned (.int .i64 ((atV xs i : Nat) : Int)) ∧ w = w' := by
 obtain ⟨ao, cap, rfl, hcap, _, hr⟩ := hs
 rw [bs_len] at *
 obtain ⟨V, hV⟩ : ∃ V, atV xs i = V := ⟨_, rfl⟩
 rw [hV]
 by_cases h : i < xs.length
 ·
  obtain ⟨b, off, rfl, hcell⟩ := hr (by omega)
  obtain ⟨c, hc⟩ : ∃ c, xs[i]? = some c := ⟨xs[i], by simp [h]⟩
  have hb := hby c (List.mem_of_getElem? hc)
  have hcv : c = (V : Int) := by rw [← hV]; unfold atV; rw [hc]; simp only [Option.getD_some]; omega
  subst hcv
  have h1 : w.cell? ⟨b, off + i, none⟩ = some (.int .u8 (V : Int)) := by rw [hcell i h]; simp [bs, hc]
  have d1 : (i : Int) < (xs.length : Int) := by omega
  have hw : IntKind.i64.wrap (V : Int) = (V : Int) := by rw [IntKind.wrap_i64]; omega
  clear hr hcell hV hc
  go_enter Tryz.func22, Tryz.ntmps22
  go_wp2
  go_ret
  exact ⟨by first | rfl | rw [hw], rfl⟩
 ·
  have d1 : ¬ (i : Int) < (xs.length : Int) := by omega
  have w1 : IntKind.i64.wrap ((i : Int) * 31) = (i : Int) * 31 := by rw [IntKind.wrap_i64]; omega
  have w2 : IntKind.i64.wrap ((xs.length : Int) * 7) = (xs.length : Int) * 7 := by rw [IntKind.wrap_i64]; omega
  have w3 : IntKind.i64.wrap ((i : Int) * 31 + (xs.length : Int) * 7) = (i : Int) * 31 + (xs.length : Int) * 7 := by rw [IntKind.wrap_i64]; omega
  have hM : ((i : Int) * 31 + (xs.length : Int) * 7) % 256 = (V : Int) := by
   rw [← hV]
   unfold atV
   rw [List.getElem?_eq_none (by omega)]
   simp only [Option.getD_none]
   omega
  have hM3 : ((i : Int) * 31 + (xs.length : Int) * 7).tmod 256 = (V : Int) := by rw [Int.tmod_eq_emod_of_nonneg (by omega)]; exact hM
  clear hr hV
  go_enter Tryz.func22, Tryz.ntmps22
  go_wp2
  go_ret
  exact ⟨rfl, rfl⟩
end Go.Proofs.YtfpaichdkddglaaGreatDoor.Draw
namespace Go.Proofs.YtfpaichdkddglaaGreatDoor.Gets
open Go.RowKit Go.Proofs.YtfpaichdkddglaaGreatDoor.Mem Go.Proofs.YtfpaichdkddglaaGreatDoor.Plain
set_option linter.unusedVariables false
theorem ret3 {a a' b b' : Int} {c c' : Bool} (h1 : a = a') (h2 : b = b') (h3 : c = c') : Ending.returned (.tuple #[.int .i64 a, .int .i64 b, .bool c]) = .returned (.tuple #[.int .i64 a', .int .i64 b', .bool c']) := by rw [h1, h2, h3]
theorem getNum_out {xs : List Int} {at_ : Int} (h : at_ < 0 ∨ (xs.length : Int) ≤ at_) : getNum xs at_ = (0, 0, false) := by
 unfold getNum; rw [if_neg (by omega)]
theorem getNum_none {xs : List Int} {a : Nat} (ha : a < xs.length) (h : dec 0 0 1 (xs.drop a) = none) : getNum xs (a : Int) = (0, 0, false) := by
 unfold getNum; rw [if_pos (by omega)]; simp [h]
theorem getNum_some {xs : List Int} {a : Nat} {n : Int} {k : Nat} (ha : a < xs.length) (h : dec 0 0 1 (xs.drop a) = some (n, k)) : getNum xs (a : Int) = (n, (a : Int) + k, true) := by
 unfold getNum; rw [if_pos (by omega)]; simp [h]
theorem drop_at {xs : List Int} {a k : Nat} {c : Int} (h : xs[a + k]? = some c) : xs.drop (a + k) = c :: xs.drop (a + (k + 1)) := by
 obtain ⟨hk, rfl⟩ := List.getElem?_eq_some_iff.1 h
 rw [List.drop_eq_getElem_cons hk]; rfl
theorem dec_more {k : Nat} {N W c : Int} {r : List Int} (h5 : k ≠ 5) (hc : 128 ≤ c) : dec k N W (c :: r) = dec (k + 1) (N + c % 128 * W) (W * 128) r := by
 rw [dec, if_neg h5, if_pos hc]
theorem dec_five {N W c : Int} {r : List Int} : dec 5 N W (c :: r) = none := by rw [dec, if_pos rfl]
theorem dec_bad {k : Nat} {N W c : Int} {r : List Int} (h5 : k ≠ 5) (hc : c < 128) (hb : 1000000000 < N + c % 128 * W ∨ (0 < k ∧ c % 128 = 0)) : dec k N W (c :: r) = none := by
 rw [dec, if_neg h5, if_neg (by omega), if_pos hb]
theorem dec_good {k : Nat} {N W c : Int} {r : List Int} (h5 : k ≠ 5) (hc : c < 128) (hb : ¬ (1000000000 < N + c % 128 * W ∨ (0 < k ∧ c % 128 = 0))) : dec k N W (c :: r) = some (N + c % 128 * W, k + 1) := by
 rw [dec, if_neg h5, if_neg (by omega), if_neg hb]
theorem pow_bd {k : Nat} (hk : k < 5) : 1 ≤ (128 : Int) ^ k ∧ (128 : Int) ^ k ≤ 268435456 := by
 rcases (show k = 0 ∨ k = 1 ∨ k = 2 ∨ k = 3 ∨ k = 4 by omega) with rfl | rfl | rfl | rfl | rfl <;> decide
theorem prod_bd {c W : Int} (hW : 1 ≤ W) : 0 ≤ c % 128 * W ∧ c % 128 * W ≤ 127 * W :=
 ⟨Int.mul_nonneg (by omega) (by omega), Int.mul_le_mul_of_nonneg_right (by omega) (by omega)⟩
set_option maxHeartbeats 1000000 in
theorem get_impl (w : World) (v : Value) (xs : List Int) (at_ : Int) (h : Sl w v (bs xs)) (hb : Byt xs) (hx : xs.length ≤ 140737488355328) (hlo : -9223372036854775808 ≤ at_) (hhi : at_ ≤ 9223372036854775807) :
  Calls Tryz.prog 111 #[v, .int .i64 at_] w fun e w' => e = .returned (.tuple #[.int .i64 (getNum xs at_).1, .int .i64 (getNum xs at_).2.1, .bool (getNum xs at_).2.2]) ∧ w' = w := by
 obtain ⟨ao, cap, rfl, hc1, _, hr1⟩ := h
 rw [bs_len] at hr1 hc1
 rw [bs_len]
 by_cases h0 : at_ < 0
 ·
  have HG : Hid (getNum xs at_ = (0, 0, false)) := getNum_out (.inl h0)
  go_enter Tryz.func111, Tryz.ntmps111
  go_wp2
  go_ret3
  exact ⟨by rw [HG.out]; rfl, rfl⟩
 by_cases h1 : (xs.length : Int) ≤ at_
 ·
  have HG : Hid (getNum xs at_ = (0, 0, false)) := getNum_out (.inr h1)
  go_enter Tryz.func111, Tryz.ntmps111
  go_wp2
  go_ret3
  exact ⟨by rw [HG.out]; rfl, rfl⟩
 obtain ⟨a, rfl⟩ := Int.eq_ofNat_of_zero_le (show 0 ≤ at_ by omega)
 have ha : a < xs.length := by omega
 have hd0 : decide ((a : Int) < 0) = false := by simp
 obtain ⟨b, off, rfl, hcells⟩ := hr1 (by omega)
 clear h0 h1 hlo hhi
 go_enter Tryz.func111, Tryz.ntmps111
 go_wp2
 go_loop [7, 8, 24] (fun n wo i => ∃ (k : Nat) (N W : Int), k ≤ xs.length - a ∧ k ≤ 5 ∧ i = .int .i64 k ∧ n = .int .i64 N ∧ wo = .int .i64 W ∧ W = 128 ^ k ∧ 0 ≤ N ∧ N < W ∧ dec 0 0 1 (xs.drop a) = dec k N W (xs.drop (a + k))) (fun _ _ i => (xs.length - a) - (intOf i).toNat)
 case atStart => exact ⟨0, 0, 1, Nat.zero_le _, by omega, rfl, rfl, rfl, rfl, by omega, by omega, rfl⟩
 case round =>
  obtain ⟨k, N, W, hk, hk5, rfl, rfl, rfl, hW0, hN0, hN1, hD0⟩ := hrel
  have HD : Hid (W = 128 ^ k ∧ dec 0 0 1 (xs.drop a) = dec k N W (xs.drop (a + k))) := ⟨hW0, hD0⟩
  clear hD0 hW0
  by_cases hlt : k < xs.length - a
  ·
   obtain ⟨c, hc0⟩ : ∃ c, xs[a + k]? = some c := ⟨xs[a + k]'(by omega), by simp⟩
   have hcell : w.cell? ⟨b, off + a + k, none⟩ = some (.int .u8 c) := by
    rw [Nat.add_assoc, hcells (a + k) (by omega), bs_get, hc0]; rfl
   have hby := hb.at hc0
   have HC : Hid (xs.drop (a + k) = c :: xs.drop (a + (k + 1))) := drop_at hc0
   clear hcells hc0 hb
   by_cases h5 : k = 5
   ·
    have HR : Hid (getNum xs (a : Int) = (0, 0, false)) := getNum_none ha (by rw [HD.out.2, HC.out, h5]; exact dec_five)
    have h5' : ((k : Int) == 5) = true := by simp; omega
    clear HD HC h5
    go_wp2
    go_ret3
    exact ⟨by rw [HR.out]; rfl, rfl⟩
   have hWb : 1 ≤ W ∧ W ≤ 268435456 := by rw [HD.out.1]; exact pow_bd (by omega)
   have hpb := prod_bd (c := c) hWb.1
   have h5' : ((k : Int) == 5) = false := by simp; omega
   by_cases hge : 128 ≤ c
   ·
    have HR : Hid (W * 128 = 128 ^ (k + 1) ∧ dec 0 0 1 (xs.drop a) = dec (k + 1) (N + c % 128 * W) (W * 128) (xs.drop (a + (k + 1)))) :=
     ⟨by rw [HD.out.1, Int.pow_succ], by rw [HD.out.2, HC.out, dec_more h5 hge]⟩
    clear HD HC
    go_wp2
    go_round
    case rel => exact ⟨k + 1, N + c % 128 * W, W * 128, by omega, by omega, by go_num, rfl, rfl, HR.out.1, by omega, by omega, HR.out.2⟩
    case measure => simp [intOf]; omega
   ·
    have hlt8 : c < 128 := by omega
    by_cases hbig : 1000000000 < N + c % 128 * W
    ·
     have HR : Hid (getNum xs (a : Int) = (0, 0, false)) := getNum_none ha (by rw [HD.out.2, HC.out]; exact dec_bad h5 hlt8 (.inl hbig))
     clear HD HC
     go_wp2
     go_ret3
     exact ⟨by rw [HR.out]; rfl, rfl⟩
    ·
     have hdec : decide (1000000000 < N + c % 128 * W) = false := by simpa using hbig
     by_cases hk0 : 0 < k
     ·
      have hdk : decide ((0 : Int) < (k : Int)) = true := by simpa using hk0
      by_cases hz : c % 128 = 0
      ·
       have HR : Hid (getNum xs (a : Int) = (0, 0, false)) := getNum_none ha (by rw [HD.out.2, HC.out]; exact dec_bad h5 hlt8 (.inr ⟨hk0, hz⟩))
       have hz' : (c % 128 == 0) = true := by simpa using hz
       clear HD HC hz
       go_wp2
       go_ret3
       exact ⟨by rw [HR.out]; rfl, rfl⟩
      ·
       have HR : Hid (getNum xs (a : Int) = (N + c % 128 * W, (a : Int) + ((k + 1 : Nat) : Int), true)) := getNum_some ha (by rw [HD.out.2, HC.out]; exact dec_good h5 hlt8 (by omega))
       have hz' : (c % 128 == 0) = false := by simpa using hz
       clear HD HC hz
       go_wp2
       go_ret3
       exact ⟨by rw [HR.out]; exact ret3 rfl (by dsimp only; omega) rfl, rfl⟩
     ·
      have hdk : decide ((0 : Int) < (k : Int)) = false := by simpa using hk0
      have HR : Hid (getNum xs (a : Int) = (N + c % 128 * W, (a : Int) + ((k + 1 : Nat) : Int), true)) := getNum_some ha (by rw [HD.out.2, HC.out]; exact dec_good h5 hlt8 (by omega))
      clear HD HC
      go_wp2
      go_ret3
      exact ⟨by rw [HR.out]; exact ret3 rfl (by dsimp only; omega) rfl, rfl⟩
  ·
   have HR : Hid (getNum xs (a : Int) = (0, 0, false)) := getNum_none ha (by rw [HD.out.2, List.drop_eq_nil_of_le (by omega)]; rfl)
   clear HD
   go_wp2
   go_ret3
   exact ⟨by rw [HR.out]; rfl, rfl⟩
end Go.Proofs.YtfpaichdkddglaaGreatDoor.Gets
namespace Go.Proofs.YtfpaichdkddglaaGreatDoor.Plain
open Go.Proofs.YtfpaichdkddglaaGreatDoor.Mem Go.Proofs.YtfpaichdkddglaaGreatDoor.Laws Go.Proofs.YtfpaichdkddglaaGreatDoor.Puts Go.Proofs.YtfpaichdkddglaaGreatDoor.Gets
theorem split_mul (m : Nat) (W : Int) : ((m % 128 : Nat) : Int) * W + ((m / 128 : Nat) : Int) * (W * 128) = (m : Int) * W := by
 have h : (m : Int) = ((m / 128 : Nat) : Int) * 128 + ((m % 128 : Nat) : Int) := by omega
 have e : (m : Int) * W = (((m / 128 : Nat) : Int) * 128 + ((m % 128 : Nat) : Int)) * W := by rw [← h]
 rw [e, Int.add_mul, Int.mul_assoc, Int.mul_comm 128 W, Int.add_comm]
theorem dec_enc (f : Nat) : ∀ (m : Nat) (k : Nat) (N W : Int) (r : List Int), m ≤ f → 0 ≤ N → 0 ≤ W → N + (m : Int) * W ≤ 1000000000 → k + (enc m).length ≤ 5 → (k = 0 ∨ 0 < m) → dec k N W (enc m ++ r) = some (N + (m : Int) * W, k + (enc m).length) := by
 induction f with
 | zero =>
  intro m k N W r hm h0 hW hN hk hz
  obtain rfl : m = 0 := by omega
  rw [enc_small (by omega)] at hk ⊢
  have hk0 : k = 0 := by omega
  subst hk0
  exact dec_good (by omega) (by omega) (by rintro (h | h) <;> simp at * <;> omega)
 | succ f ih =>
  intro m k N W r hm h0 hW hN hk hz
  by_cases hs : m < 128
  ·
   rw [enc_small hs] at hk ⊢
   have e : ((m : Nat) : Int) % 128 = (m : Int) := by omega
   have hg := dec_good (k := k) (N := N) (W := W) (c := (m : Int)) (r := r) (by simp at hk; omega) (by omega) (by rw [e]; omega)
   rw [e] at hg
   exact hg
  ·
   rw [enc_step hs] at hk ⊢
   simp only [List.length_cons] at hk
   have e : ((m % 128 + 128 : Nat) : Int) % 128 = ((m % 128 : Nat) : Int) := by omega
   have hstep := dec_more (k := k) (N := N) (W := W) (c := ((m % 128 + 128 : Nat) : Int)) (r := enc (m / 128) ++ r) (by omega) (by omega)
   rw [e] at hstep
   have hsm := split_mul m W
   have hp : 0 ≤ ((m % 128 : Nat) : Int) * W := Int.mul_nonneg (by omega) hW
   have hih := ih (m / 128) (k + 1) (N + ((m % 128 : Nat) : Int) * W) (W * 128) r (by omega) (by omega) (by omega) (by omega) (by omega) (.inr (by omega))
   rw [List.cons_append, hstep, hih]
   simp only [List.length_cons, Option.some.injEq, Prod.mk.injEq]
   omega
theorem num_eq (n : Int) : num n = enc (clampN n).toNat := rfl
theorem getNum_back (ys r : List Int) (n : Int) : getNum (ys ++ (num n ++ r)) (ys.length : Int) = (clampN n, (ys.length : Int) + (num n).length, true) := by
 have hb := clampN_bd n
 have hl := num_len n
 have e : ((clampN n).toNat : Int) = clampN n := by omega
 have hd := dec_enc (clampN n).toNat (clampN n).toNat 0 0 1 r (Nat.le_refl _) (by omega) (by omega) (by omega) (by rw [← num_eq]; omega) (.inl rfl)
 rw [← num_eq] at hd
 have hlen : ys.length < (ys ++ (num n ++ r)).length := by simp; omega
 have h := getNum_some (xs := ys ++ (num n ++ r)) (a := ys.length) hlen (by rw [List.drop_append, List.drop_eq_nil_of_le (Nat.le_refl _), Nat.sub_self, List.nil_append, List.drop_zero]; exact hd)
 rw [h]
 simp only [Prod.mk.injEq, and_true]
 omega
theorem u8s_sb (s : ByteArray) : u8s (sb s) = s.data.toList := by
 unfold u8s sb
 rw [List.map_map]
 have h : ((fun x : Int => UInt8.ofNat x.toNat) ∘ fun b : UInt8 => (b.toNat : Int)) = id := by
  funext b
  simp
 rw [h, List.map_id]
theorem txt_sb (s : ByteArray) : txt (sb s) = s := by
 unfold txt
 rw [u8s_sb]
theorem clamp_size {n : Nat} (h : n ≤ 1000000000) : clampN (n : Int) = (n : Int) := by
 unfold clampN
 rw [if_neg (by omega), if_neg (by omega)]
theorem getText_back (ys r : List Int) (s : ByteArray) (hs : s.size ≤ 1000000000) : getText (ys ++ (tx s ++ r)) (ys.length : Int) = (s, (ys.length : Int) + (tx s).length, true) := by
 have hg := getNum_back ys (sb s ++ r) (s.size : Int)
 rw [clamp_size hs] at hg
 have e : ys ++ (tx s ++ r) = ys ++ (num (s.size : Int) ++ (sb s ++ r)) := by unfold tx; rw [List.append_assoc]
 rw [e]
 have hl : (ys ++ (num (s.size : Int) ++ (sb s ++ r))).length = ys.length + ((num (s.size : Int)).length + (s.size + r.length)) := by
  simp only [List.length_append, sb_len]
 have hg2 : getNum (ys ++ (num (s.size : Int) ++ (sb s ++ r))) (ys.length : Int) = ((s.size : Int), ((ys.length + (num (s.size : Int)).length : Nat) : Int), true) := by
  rw [hg]; simp
 have h := getText_yes hg2 (by rw [hl]; omega)
 rw [h]
 have hd : ((ys ++ (num (s.size : Int) ++ (sb s ++ r))).drop (ys.length + (num (s.size : Int)).length)).take s.size = sb s := by
  rw [← List.append_assoc, List.drop_append, List.drop_eq_nil_of_le (by simp), List.nil_append, show ys.length + (num (s.size : Int)).length - (ys ++ num (s.size : Int)).length = 0 by simp, List.drop_zero, List.take_append_of_le_length (by rw [sb_len]; exact Nat.le_refl _), List.take_of_length_le (by rw [sb_len]; exact Nat.le_refl _)]
 rw [hd, txt_sb]
 have ht : (tx s).length = (num (s.size : Int)).length + s.size := by unfold tx; rw [List.length_append, sb_len]
 rw [ht]
 simp only [Prod.mk.injEq, and_true, true_and]
 omega
theorem rd_back (l : List ByteArray) : ∀ (ys r : List Int), (∀ s ∈ l, s.size ≤ 1000000000) → rd (ys ++ (txs l ++ r)) l.length (ys.length : Int) = some (l, (ys.length : Int) + (txs l).length) := by
 induction l with
 | nil => intro ys r _; simp [rd, txs]
 | cons s t ih =>
  intro ys r hs
  have e : ys ++ (txs (s :: t) ++ r) = ys ++ (tx s ++ (txs t ++ r)) := by simp only [txs, List.append_assoc]
  have e2 : ys ++ (tx s ++ (txs t ++ r)) = (ys ++ tx s) ++ (txs t ++ r) := by simp only [List.append_assoc]
  rw [e, List.length_cons, rd_yes (getText_back ys (txs t ++ r) s (hs s (List.mem_cons_self ..))), e2]
  have h := ih (ys ++ tx s) r (fun x hx => hs x (List.mem_cons_of_mem _ hx))
  have e3 : ((ys ++ tx s).length : Int) = (ys.length : Int) + ((tx s).length : Int) := by rw [List.length_append]; omega
  rw [e3] at h
  rw [h]
  simp only [Option.map_some, txs, List.length_append, Option.some.injEq, Prod.mk.injEq, true_and]
  omega
theorem getTexts_back (ys r : List Int) (l : List ByteArray) (hl : l.length ≤ 200) (hs : ∀ s ∈ l, s.size ≤ 1000000000) :
  getTexts ((ys ++ num (l.length : Int) ++ txs l) ++ r) (ys.length : Int) = (l, ((ys ++ num (l.length : Int) ++ txs l).length : Int), true) := by
 have hg := getNum_back ys (txs l ++ r) (l.length : Int)
 rw [clamp_size (by omega)] at hg
 have e : (ys ++ num (l.length : Int) ++ txs l) ++ r = ys ++ (num (l.length : Int) ++ (txs l ++ r)) := by simp only [List.append_assoc]
 have e2 : ys ++ (num (l.length : Int) ++ (txs l ++ r)) = (ys ++ num (l.length : Int)) ++ (txs l ++ r) := by simp only [List.append_assoc]
 rw [e]
 have hr := rd_back l (ys ++ num (l.length : Int)) r hs
 rw [← e2] at hr
 have e3 : ((ys ++ num (l.length : Int)).length : Int) = (ys.length : Int) + ((num (l.length : Int)).length : Int) := by rw [List.length_append]; omega
 rw [e3] at hr
 rw [getTexts_some hg hl hr]
 simp only [List.length_append, Prod.mk.injEq, true_and, and_true]
 omega
end Go.Proofs.YtfpaichdkddglaaGreatDoor.Plain
