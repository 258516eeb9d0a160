/- Chapter 10: drawn heads. -/
import Derived.Test.YtccnhhdcdamgmaaDoorHeO
import Derived.Test.YtccnhhdcdamgmaaDoorTrD
namespace Go.Proofs.YtccnhhdcdamgmaaDoor.He
open Go.RowKit Go.Proofs.YtccnhhdcdamgmaaDoor.Mem Go.Proofs.YtccnhhdcdamgmaaDoor.Laws Go.Proofs.YtccnhhdcdamgmaaDoor.Bytes Go.Proofs.YtccnhhdcdamgmaaDoor.Sha Go.Proofs.YtccnhhdcdamgmaaDoor.Tr Go.Proofs.YtccnhhdcdamgmaaDoor.Draw
set_option linter.unusedVariables false
set_option linter.unusedSimpArgs false

set_option maxRecDepth 1000000 in
theorem once10 (W0 w : World) (g : Nat) (vb : Value) (xs : List Int) (n : Int) (hn1 : 1 ≤ n) (hn2 : n ≤ 9223372036854775807) (hs : Sl W0 vb (bs xs)) (hby : Byt xs) (hx : xs.length ≤ 140737488355328) (hB : Below W0.heap.size W0 w) (hg : W0.heap.size ≤ g) (hc : Cur w g vb xs.length) :
    Calls Tryd.prog 53 #[.pointer (some ⟨g, 0, none⟩), .int .i64 n] w fun e w' => ∃ b : Bool, e = .returned (.bool b) ∧ Drawn W0 w g vb xs w' := by
  go_enter Tryd.func53, Tryd.ntmps53
  go_wp2_with fail
  refine (below_any W0 _ g vb xs n hn1 hn2 hs hby hx hB hg hc).mono ?_
  rintro e w2 ⟨a, rfl, a0, a1, hd2⟩
  go_wp2_with fail
  go_ret
  exact ⟨_, rfl, hd2⟩

theorem Oh.drawn {W0 w w' : World} {g lo hi : Nat} {vb : Value} {xs : List Int} {v : Value} {t : List Hd} (h : Oh w lo hi v t) (hd : Drawn W0 w g vb xs w') (hgl : g < lo ∨ hi ≤ g) (hh : hi ≤ w.heap.size) : Oh w' lo hi v t :=
  On.apart h hd.apart (by omega) hh
theorem Oh.up {w w' : World} {lo : Nat} {v : Value} {t : List Hd} (h : Oh w lo w.heap.size v t) (hk : Oh w' lo w.heap.size v t) (hs : w.heap.size ≤ w'.heap.size) : Oh w' lo w'.heap.size v t := On.mono hk (Nat.le_refl _) hs
theorem Oh.none (w : World) (lo : Nat) (h : lo ≤ w.heap.size) : Oh (w.alloc (.cells #[] 26)) lo (w.alloc (.cells #[] 26)).heap.size (.slice (some ⟨w.heap.size, 0, none⟩) 0 0) [] := On.lit 2 w lo 26 h
theorem Sh.one (w : World) (h : Hd) : Sn 2 (w.alloc (.cells #[.int .i64 h.n, .string h.r] 26)) (.slice (some ⟨w.heap.size, 0, none⟩) 1 1) 1 h.cs := Sn.one 2 w (hc h) 26 rfl
theorem cs_one (h : Hd) : ∀ u ∈ h.cs, u.oneCell' = true := by
  intro u hu
  simp only [Hd.cs, List.mem_cons, List.not_mem_nil, or_false] at hu
  rcases hu with rfl | rfl <;> rfl
theorem Oh.snoc {w : World} {lo hi : Nat} {v : Value} {t : List Hd} {h : Hd} (o : On 2 w lo hi 26 v (t.length + 1) (hds t ++ h.cs)) : Oh w lo hi v (t ++ [h]) := by
  unfold Oh
  rw [hds_snoc, List.length_append]
  exact o

set_option maxRecDepth 1000000 in
set_option maxHeartbeats 4000000 in
theorem table_any (W0 w : World) (g : Nat) (vb : Value) (xs : List Int) (lo hi' : Nat) (v : Value) (l : List ByteArray) (hl : l.length ≤ 100) (hz : ∀ s ∈ l, s.size ≤ 3) (o : Own w lo hi' 9 v (ss l)) (hlo : g < lo) (hhi : hi' ≤ w.heap.size) (hs : Sl W0 vb (bs xs)) (hby : Byt xs) (hx : xs.length ≤ 140737488355328) (hB : Below W0.heap.size W0 w) (hg : W0.heap.size ≤ g) (hcu : Cur w g vb xs.length) :
    Calls Tryd.prog 49 #[.pointer (some ⟨g, 0, none⟩), v] w fun e w' => ∃ (v' : Value) (t : List Hd), e = .returned v' ∧ 1 ≤ t.length ∧ t.length ≤ l.length + 1 ∧ (∀ x ∈ t, x.r.size ≤ 32) ∧ Oh w' w.heap.size w'.heap.size v' t ∧ Drawn W0 w g vb xs w' := by
  obtain ⟨i0, hi, hz0, hz1, hz2⟩ := info_parts infoH
  have hgw := hcu.lt
  have HO : Hid (Own w lo hi' 9 v (ss l)) := o
  have hd0 : Drawn W0 w g vb xs (w.alloc (.cells #[] 26)) := (Drawn.refl hB hcu).on hg hgw ((Below.refl _ _).alloc (Nat.le_refl _) _)
  have ho0 := Oh.none w w.heap.size (Nat.le_refl _)
  have hl0 : Own (w.alloc (.cells #[] 26)) lo hi' 9 v (ss l) := o.later ((Below.refl _ _).alloc (Nat.le_refl _) _) hhi
  obtain ⟨ao, cap, rfl⟩ := o.len
  rw [ss_len] at *
  clear o
  go_enter Tryd.func49, Tryd.ntmps49
  go_wp2
  go_loopw [5, 6] (fun out nv wr => ∃ (k : Nat) (T : List Hd), k ≤ l.length + 1 ∧ nv = .int .i64 (k : Int) ∧ T.length ≤ k ∧ (k ≤ l.length ∨ 1 ≤ T.length) ∧ Hid (∀ x ∈ T, x.r.size ≤ 32) ∧ Hid (Oh wr w.heap.size wr.heap.size out T) ∧ Hid (Own wr lo hi' 9 (.slice ao l.length cap) (ss l)) ∧ Hid (Drawn W0 w g vb xs wr)) (fun _ nv _ => l.length + 1 - (intOf nv).toNat)
  case atStart => exact ⟨0, [], by omega, rfl, by simp, by omega, (fun x hx => by cases hx), ho0, hl0, hd0⟩
  case round =>
    obtain ⟨k, T, hk, rfl, hT, hT1, HZ, HT, HL, HD'⟩ := hrel
    clear hd0 ho0 hl0
    by_cases hlt : k ≤ l.length
    · have hlt' : (k : Int) ≤ (l.length : Int) := by omega
      have q1 := once10 W0 wr g vb xs 3 (by omega) (by omega) hs hby hx HD'.out.below hg HD'.out.cur
      have zw : w.heap.size ≤ wr.heap.size := HD'.out.apart.size
      go_wp2_with fail
      refine q1.mono ?_
      rintro e w1 ⟨b, rfl, d1⟩
      have z1 : wr.heap.size ≤ w1.heap.size := d1.apart.size
      have HT1 : Hid (Oh w1 w.heap.size w1.heap.size _ T) := Oh.up HT.out (Oh.drawn HT.out d1 (.inl hgw) (Nat.le_refl _)) z1
      have HL1 : Hid (Own w1 lo hi' 9 (.slice ao l.length cap) (ss l)) := Own.drawn HL.out d1 (.inl hlo) (by omega)
      have HD1 : Hid (Drawn W0 w g vb xs w1) := HD'.out.and d1
      clear q1 d1 HT HL HD'
      have grow : ((b = false) ∨ k = l.length) ∨ (b = true ∧ k < l.length) := by
        cases b
        · exact .inl (.inl rfl)
        · by_cases hkl : k = l.length
          · exact .inl (.inr hkl)
          · exact .inr ⟨rfl, by omega⟩
      rcases grow with hgr | ⟨rfl, hkl⟩
      · have s1 : Sl w1 (.slice ao k cap) (ss (l.take k)) := by rw [← ss_take]; exact HL1.out.sl.front k (by rw [ss_len]; omega)
        have q2 := headOf_spec w1 (.slice ao k cap) (l.take k) s1 (by rw [List.length_take]; omega) (fun s h => Nat.le_trans (hz s (List.mem_of_mem_take h)) (by omega))
        have zh := headOf_size (l.take k)
        obtain ⟨M, hM⟩ : ∃ M, headOf (l.take k) = M := ⟨_, rfl⟩
        rw [hM] at q2 zh
        have HC : Hid (l.length ≤ cap) := by
          obtain ⟨ao', cap', he, hc', _⟩ := HL1.out.sl
          simp only [Value.slice.injEq] at he
          obtain ⟨rfl, _, rfl⟩ := he
          rw [ss_len] at hc'
          exact hc'
        have hcp : (k : Int) ≤ (cap : Int) := by have := HC.out; omega
        have k1 : T.length + 1 ≤ maxLen := by unfold maxLen; omega
        have k2 : (T.length + 1) * 24 ≤ 140737488355328 := by omega
        clear hM s1
        have tail : b = false ∨ (b = true ∧ ((k : Int) == (l.length : Int)) = true) := by
          cases b
          · exact .inl rfl
          · refine .inr ⟨rfl, ?_⟩
            rcases hgr with h | h
            · cases h
            · rw [beq_iff_eq]; omega
        rcases tail with rfl | ⟨rfl, hkk⟩
        all_goals
          go_wp2_with fail
          refine q2.mono ?_
          rintro e w2 ⟨rfl, b2⟩
          have HT2 : Hid (Oh w2 w.heap.size w2.heap.size _ T) := Oh.up HT1.out (Oh.later HT1.out b2 (Nat.le_refl _)) b2.size
          have HL2 : Hid (Own w2 lo hi' 9 (.slice ao l.length cap) (ss l)) := HL1.out.later b2 (by omega)
          have HD2 : Hid (Drawn W0 w g vb xs w2) := HD1.out.on hg hgw (b2.mono (by omega))
          have z2 : w1.heap.size ≤ w2.heap.size := b2.size
          have k3 : ∀ ob, w.heap.size ≤ (w2.alloc ob).heap.size := fun ob => by simp; omega
          have O2 : ∀ ob, On 2 (w2.alloc ob) w.heap.size (w2.alloc ob).heap.size 26 _ T.length (hds T) := fun ob => On.alloc HT2.out ob
          clear q2 b2 HT1 HL1 HD1
          go_wp2_with (at_builtin; go_must (refine wpl_appn 2 (by omega) _ rfl (.tmp 23) (.tmp 28) 29 rfl 26 i0 (.agg #[.int .i64 0, .string ⟨#[]⟩]) 24 Tryd.underlying29 hi hz0 hz1 hz2 rfl w.heap.size _ T.length (hds T) rfl (O2 _) _ rfl 1 M.cs (Sh.one _ M) (cs_one M) k1 k2 (k3 _) ?_))
          intro v3 w3 o3 b3 _
          have HT3 : Hid (Oh w3 w.heap.size w3.heap.size v3 (T ++ [M])) := Oh.snoc o3
          have b23 : Below w.heap.size w2 w3 := ((Below.refl _ _).alloc (by omega) _).trans b3
          have HL3 : Hid (Own w3 lo hi' 9 (.slice ao l.length cap) (ss l)) := HL2.out.later b23 hhi
          have HD3 : Hid (Drawn W0 w g vb xs w3) := HD2.out.on hg hgw b23
          have HZ3 : Hid (∀ x ∈ T ++ [M], x.r.size ≤ 32) := by
            intro x hx
            rcases List.mem_append.1 hx with h | h
            · exact HZ.out x h
            · rw [List.mem_singleton] at h; rw [h]; exact zh
          clear O2 o3 b3 HT2 HL2 HD2 b23
          go_wp2
          go_roundw
          case rel => exact ⟨k + 1, T ++ [M], by omega, by go_num, by simp; omega, by simp, HZ3, HT3, HL3, HD3⟩
          case measure => simp [intOf]; omega
      · have hkk : ((k : Int) == (l.length : Int)) = false := by rw [beq_eq_false_iff_ne]; omega
        go_wp2
        go_roundw
        case rel => exact ⟨k + 1, T, by omega, by go_num, by omega, by omega, HZ, HT1, HL1, HD1⟩
        case measure => simp [intOf]; omega
    · have hlt' : ¬ (k : Int) ≤ (l.length : Int) := by omega
      go_wp2
      go_ret
      first | exact ⟨_, T, rfl, by omega, by omega, HZ.out, HT.out, HD'.out⟩ | exact ⟨_, rfl, T, by omega, by omega, HZ.out, HT.out, HD'.out⟩

end Go.Proofs.YtccnhhdcdamgmaaDoor.He
