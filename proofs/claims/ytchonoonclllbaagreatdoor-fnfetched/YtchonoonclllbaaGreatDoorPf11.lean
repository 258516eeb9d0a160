/- Texts in one: He6, LgD, Crs, Gets, Plain3, Can, Sr1. -/
import Derived.Test.YtchonoonclllbaaGreatDoorPf10
namespace Go.Proofs.YtchonoonclllbaaGreatDoor.He
open Go.RowKit Go.Proofs.YtchonoonclllbaaGreatDoor.Mem Go.Proofs.YtchonoonclllbaaGreatDoor.Laws Go.Proofs.YtchonoonclllbaaGreatDoor.Bytes Go.Proofs.YtchonoonclllbaaGreatDoor.Sha Go.Proofs.YtchonoonclllbaaGreatDoor.Tr Go.Proofs.YtchonoonclllbaaGreatDoor.Draw
set_option linter.unusedVariables false
set_option linter.unusedSimpArgs false
set_option maxRecDepth 1000000 in
theorem once10 (W0 w : World) (g : Nat) (vb : Value) (xs : List Int) (n : Int) (hn1 : 1 ≤ n) (hn2 : n ≤ 9223372036854775807) (hs : Sl W0 vb (bs xs)) (hby : Byt xs) (hx : xs.length ≤ 140737488355328) (hB : Below W0.heap.size W0 w) (hg : W0.heap.size ≤ g) (hc : Cur w g vb xs.length) :
  Calls Tryz.prog 100 #[.pointer (some ⟨g, 0, none⟩), .int .i64 n] w fun e w' => ∃ b : Bool, e = .returned (.bool b) ∧ Drawn W0 w g vb xs w' := by
 go_enter Tryz.func100, Tryz.ntmps100
 go_wp2_with fail
 refine (below_any W0 _ g vb xs n hn1 hn2 hs hby hx hB hg hc).mono ?_
 rintro e w2 ⟨a, rfl, a0, a1, hd2⟩
 go_wp2_with fail
 go_ret
 exact ⟨_, rfl, hd2⟩
theorem Oh.drawn {W0 w w' : World} {g lo hi : Nat} {vb : Value} {xs : List Int} {v : Value} {t : List Hd} (h : Oh w lo hi v t) (hd : Drawn W0 w g vb xs w') (hgl : g < lo ∨ hi ≤ g) (hh : hi ≤ w.heap.size) : Oh w' lo hi v t :=
 On.apart h hd.apart (by omega) hh
theorem Oh.up {w w' : World} {lo : Nat} {v : Value} {t : List Hd} (h : Oh w lo w.heap.size v t) (hk : Oh w' lo w.heap.size v t) (hs : w.heap.size ≤ w'.heap.size) : Oh w' lo w'.heap.size v t := On.mono hk (Nat.le_refl _) hs
theorem Oh.none (w : World) (lo : Nat) (h : lo ≤ w.heap.size) : Oh (w.alloc (.cells #[] 26)) lo (w.alloc (.cells #[] 26)).heap.size (.slice (some ⟨w.heap.size, 0, none⟩) 0 0) [] := On.lit 2 w lo 26 h
theorem Sh.one (w : World) (h : Hd) : Sn 2 (w.alloc (.cells #[.int .i64 h.n, .string h.r] 26)) (.slice (some ⟨w.heap.size, 0, none⟩) 1 1) 1 h.cs := Sn.one 2 w (hc h) 26 rfl
theorem cs_one (h : Hd) : ∀ u ∈ h.cs, u.oneCell' = true := by
 intro u hu
 simp only [Hd.cs, List.mem_cons, List.not_mem_nil, or_false] at hu
 rcases hu with rfl | rfl <;> rfl
theorem Oh.snoc {w : World} {lo hi : Nat} {v : Value} {t : List Hd} {h : Hd} (o : On 2 w lo hi 26 v (t.length + 1) (hds t ++ h.cs)) : Oh w lo hi v (t ++ [h]) := by
 unfold Oh
 rw [hds_snoc, List.length_append]
 exact o
structure Tab (l : List ByteArray) (t : List Hd) : Prop where
 all : ∀ x ∈ t, ∃ n, n ≤ l.length ∧ x = headOf (l.take n)
 has : headOf l ∈ t
def TabK (l : List ByteArray) (k : Nat) (t : List Hd) : Prop := (∀ x ∈ t, ∃ n, n ≤ l.length ∧ x = headOf (l.take n)) ∧ (l.length < k → headOf l ∈ t)
theorem TabK.nil (l : List ByteArray) : TabK l 0 [] := ⟨fun x hx => (by cases hx), fun h => absurd h (by omega)⟩
theorem TabK.snoc {l : List ByteArray} {k : Nat} {t : List Hd} (h : TabK l k t) (hk : k ≤ l.length) : TabK l (k + 1) (t ++ [headOf (l.take k)]) := by
 refine ⟨fun x hx => ?_, fun h9 => ?_⟩
 ·
  rcases List.mem_append.1 hx with h1 | h1
  ·
   exact h.1 x h1
  ·
   exact ⟨k, hk, List.mem_singleton.1 h1⟩
 ·
  have e : k = l.length := by omega
  rw [e, List.take_length]
  exact List.mem_append.2 (.inr (List.mem_singleton.2 rfl))
theorem TabK.skip {l : List ByteArray} {k : Nat} {t : List Hd} (h : TabK l k t) (hk : k < l.length) : TabK l (k + 1) t := ⟨h.1, fun h9 => absurd h9 (by omega)⟩
theorem TabK.done {l : List ByteArray} {k : Nat} {t : List Hd} (h : TabK l k t) (hk : ¬ k ≤ l.length) : Tab l t := ⟨h.1, h.2 (by omega)⟩
set_option maxRecDepth 1000000 in
set_option maxHeartbeats 4000000 in
theorem table_tab (W0 w : World) (g : Nat) (vb : Value) (xs : List Int) (lo hi' : Nat) (v : Value) (l : List ByteArray) (hl : l.length ≤ 100) (hz : ∀ s ∈ l, s.size ≤ 3) (o : Own w lo hi' 9 v (ss l)) (hlo : g < lo) (hhi : hi' ≤ w.heap.size) (hs : Sl W0 vb (bs xs)) (hby : Byt xs) (hx : xs.length ≤ 140737488355328) (hB : Below W0.heap.size W0 w) (hg : W0.heap.size ≤ g) (hcu : Cur w g vb xs.length) :
  Calls Tryz.prog 127 #[.pointer (some ⟨g, 0, none⟩), v] w fun e w' => ∃ (v' : Value) (t : List Hd), e = .returned v' ∧ 1 ≤ t.length ∧ t.length ≤ l.length + 1 ∧ (∀ x ∈ t, x.r.size ≤ 32) ∧ Tab l t ∧ Oh w' w.heap.size w'.heap.size v' t ∧ Drawn W0 w g vb xs w' := by
 obtain ⟨i0, hi, hz0, hz1, hz2⟩ := info_parts infoH
 have hgw := hcu.lt
 have HO : Hid (Own w lo hi' 9 v (ss l)) := o
 have hd0 : Drawn W0 w g vb xs (w.alloc (.cells #[] 26)) := (Drawn.refl hB hcu).on hg hgw ((Below.refl _ _).alloc (Nat.le_refl _) _)
 have ho0 := Oh.none w w.heap.size (Nat.le_refl _)
 have hl0 : Own (w.alloc (.cells #[] 26)) lo hi' 9 v (ss l) := o.later ((Below.refl _ _).alloc (Nat.le_refl _) _) hhi
 obtain ⟨ao, cap, rfl⟩ := o.len
 rw [ss_len] at *
 clear o
 go_enter Tryz.func127, Tryz.ntmps127
 go_wp2
 go_loopw [5, 6] (fun out nv wr => ∃ (k : Nat) (T : List Hd), k ≤ l.length + 1 ∧ nv = .int .i64 (k : Int) ∧ T.length ≤ k ∧ (k ≤ l.length ∨ 1 ≤ T.length) ∧ Hid (∀ x ∈ T, x.r.size ≤ 32) ∧ Hid (TabK l k T) ∧ Hid (Oh wr w.heap.size wr.heap.size out T) ∧ Hid (Own wr lo hi' 9 (.slice ao l.length cap) (ss l)) ∧ Hid (Drawn W0 w g vb xs wr)) (fun _ nv _ => l.length + 1 - (intOf nv).toNat)
 case atStart => exact ⟨0, [], by omega, rfl, by simp, by omega, (fun x hx => by cases hx), TabK.nil l, ho0, hl0, hd0⟩
 case round =>
  obtain ⟨k, T, hk, rfl, hT, hT1, HZ, HTK, HT, HL, HD'⟩ := hrel
  clear hd0 ho0 hl0
  by_cases hlt : k ≤ l.length
  ·
   have hlt' : (k : Int) ≤ (l.length : Int) := by omega
   have q1 := once10 W0 wr g vb xs 3 (by omega) (by omega) hs hby hx HD'.out.below hg HD'.out.cur
   have zw : w.heap.size ≤ wr.heap.size := HD'.out.apart.size
   go_wp2_with fail
   refine q1.mono ?_
   rintro e w1 ⟨b, rfl, d1⟩
   have z1 : wr.heap.size ≤ w1.heap.size := d1.apart.size
   have HT1 : Hid (Oh w1 w.heap.size w1.heap.size _ T) := Oh.up HT.out (Oh.drawn HT.out d1 (.inl hgw) (Nat.le_refl _)) z1
   have HL1 : Hid (Own w1 lo hi' 9 (.slice ao l.length cap) (ss l)) := Own.drawn HL.out d1 (.inl hlo) (by omega)
   have HD1 : Hid (Drawn W0 w g vb xs w1) := HD'.out.and d1
   clear q1 d1 HT HL HD'
   have grow : ((b = false) ∨ k = l.length) ∨ (b = true ∧ k < l.length) := by
    cases b
    ·
     exact .inl (.inl rfl)
    ·
     by_cases hkl : k = l.length
     ·
      exact .inl (.inr hkl)
     ·
      exact .inr ⟨rfl, by omega⟩
   rcases grow with hgr | ⟨rfl, hkl⟩
   ·
    have s1 : Sl w1 (.slice ao k cap) (ss (l.take k)) := by rw [← ss_take]; exact HL1.out.sl.front k (by rw [ss_len]; omega)
    have q2 := headOf_spec w1 (.slice ao k cap) (l.take k) s1 (by rw [List.length_take]; omega) (fun s h => Nat.le_trans (hz s (List.mem_of_mem_take h)) (by omega))
    have zh := headOf_size (l.take k)
    obtain ⟨M, hM⟩ : ∃ M, headOf (l.take k) = M := ⟨_, rfl⟩
    rw [hM] at q2 zh
    have HTM : Hid (TabK l (k + 1) (T ++ [M])) := by rw [← hM]; exact TabK.snoc HTK.out hlt
    have HC : Hid (l.length ≤ cap) := by
     obtain ⟨ao', cap', he, hc', _⟩ := HL1.out.sl
     simp only [Value.slice.injEq] at he
     obtain ⟨rfl, _, rfl⟩ := he
     rw [ss_len] at hc'
     exact hc'
    have hcp : (k : Int) ≤ (cap : Int) := by have := HC.out; omega
    have k1 : T.length + 1 ≤ maxLen := by unfold maxLen; omega
    have k2 : (T.length + 1) * 24 ≤ 140737488355328 := by omega
    clear hM s1
    have tail : b = false ∨ (b = true ∧ ((k : Int) == (l.length : Int)) = true) := by
     cases b
     ·
      exact .inl rfl
     ·
      refine .inr ⟨rfl, ?_⟩
      rcases hgr with h | h
      ·
       cases h
      ·
       rw [beq_iff_eq]; omega
    rcases tail with rfl | ⟨rfl, hkk⟩
    all_goals
     go_wp2_with fail
     refine q2.mono ?_
     rintro e w2 ⟨rfl, b2⟩
     have HT2 : Hid (Oh w2 w.heap.size w2.heap.size _ T) := Oh.up HT1.out (Oh.later HT1.out b2 (Nat.le_refl _)) b2.size
     have HL2 : Hid (Own w2 lo hi' 9 (.slice ao l.length cap) (ss l)) := HL1.out.later b2 (by omega)
     have HD2 : Hid (Drawn W0 w g vb xs w2) := HD1.out.on hg hgw (b2.mono (by omega))
     have z2 : w1.heap.size ≤ w2.heap.size := b2.size
     have k3 : ∀ ob, w.heap.size ≤ (w2.alloc ob).heap.size := fun ob => by simp; omega
     have O2 : ∀ ob, On 2 (w2.alloc ob) w.heap.size (w2.alloc ob).heap.size 26 _ T.length (hds T) := fun ob => On.alloc HT2.out ob
     clear q2 b2 HT1 HL1 HD1
     go_wp2_with (at_builtin; go_must (refine wpl_appn 2 (by omega) _ rfl (.tmp 23) (.tmp 28) 33 rfl 26 i0 (.agg #[.int .i64 0, .string ⟨#[]⟩]) 24 Tryz.underlying33 hi hz0 hz1 hz2 rfl w.heap.size _ T.length (hds T) rfl (O2 _) _ rfl 1 M.cs (Sh.one _ M) (cs_one M) k1 k2 (k3 _) ?_))
     intro v3 w3 o3 b3 _
     have HT3 : Hid (Oh w3 w.heap.size w3.heap.size v3 (T ++ [M])) := Oh.snoc o3
     have b23 : Below w.heap.size w2 w3 := ((Below.refl _ _).alloc (by omega) _).trans b3
     have HL3 : Hid (Own w3 lo hi' 9 (.slice ao l.length cap) (ss l)) := HL2.out.later b23 hhi
     have HD3 : Hid (Drawn W0 w g vb xs w3) := HD2.out.on hg hgw b23
     have HZ3 : Hid (∀ x ∈ T ++ [M], x.r.size ≤ 32) := by
      intro x hx
      rcases List.mem_append.1 hx with h | h
      ·
       exact HZ.out x h
      ·
       rw [List.mem_singleton] at h; rw [h]; exact zh
     clear O2 o3 b3 HT2 HL2 HD2 b23
     go_wp2
     go_roundw
     case rel => exact ⟨k + 1, T ++ [M], by omega, by go_num, by simp; omega, by simp, HZ3, HTM, HT3, HL3, HD3⟩
     case measure => simp [intOf]; omega
   ·
    have hkk : ((k : Int) == (l.length : Int)) = false := by rw [beq_eq_false_iff_ne]; omega
    go_wp2
    go_roundw
    case rel => exact ⟨k + 1, T, by omega, by go_num, by omega, by omega, HZ, TabK.skip HTK.out hkl, HT1, HL1, HD1⟩
    case measure => simp [intOf]; omega
  ·
   have hlt' : ¬ (k : Int) ≤ (l.length : Int) := by omega
   go_wp2
   go_ret
   first | exact ⟨_, T, rfl, by omega, by omega, HZ.out, TabK.done HTK.out hlt, HT.out, HD'.out⟩ | exact ⟨_, rfl, T, by omega, by omega, HZ.out, TabK.done HTK.out hlt, HT.out, HD'.out⟩
end Go.Proofs.YtchonoonclllbaaGreatDoor.He
namespace Go.Proofs.YtchonoonclllbaaGreatDoor.Lg
open Go.RowKit Go.Proofs.YtchonoonclllbaaGreatDoor.Mem Go.Proofs.YtchonoonclllbaaGreatDoor.Laws Go.Proofs.YtchonoonclllbaaGreatDoor.Bytes Go.Proofs.YtchonoonclllbaaGreatDoor.Sha Go.Proofs.YtchonoonclllbaaGreatDoor.Tr Go.Proofs.YtchonoonclllbaaGreatDoor.Draw Go.Proofs.YtchonoonclllbaaGreatDoor.He
set_option linter.unusedVariables false
set_option linter.unusedSimpArgs false
theorem drawn_row {W0 w w' : World} {g k : Nat} {vb : Value} {xs : List Int} {o : Obj} (h : w.heap[k]? = some o) (d : Drawn W0 w g vb xs w') (hk : k ≠ g) : w'.heap[k]? = some o :=
 (d.apart.block k (Array.getElem?_eq_some_iff.1 h).1 (by omega)).trans h
end Go.Proofs.YtchonoonclllbaaGreatDoor.Lg
namespace Go.Proofs.YtchonoonclllbaaGreatDoor.Draw
open Go.RowKit Go.Proofs.YtchonoonclllbaaGreatDoor.Mem Go.Proofs.YtchonoonclllbaaGreatDoor.Laws Go.Proofs.YtchonoonclllbaaGreatDoor.Bytes Go.Proofs.YtchonoonclllbaaGreatDoor.He
set_option linter.unusedVariables false
set_option linter.unusedSimpArgs false
theorem Cur.keep {w w' : World} {g : Nat} {vb : Value} {n : Nat} (h : Cur w g vb n) (b : Below w.heap.size w w') : Cur w' g vb n := h.later b h.lt
theorem Cur.gro {w w' : World} {g : Nat} {vb : Value} {n : Nat} {r : Option Nat} (h : Cur w g vb n) (gr : w.grownBy w' r) (hne : r ≠ some g) : Cur w' g vb n := by
 obtain ⟨i, x, hr, hi⟩ := h
 exact ⟨i, x, rowGro hr gr hne, hi⟩
theorem Cur.groOwn {w w' : World} {g lo hi : Nat} {vb v : Value} {n : Nat} {e : TypeId} {cs : List Value} (h : Cur w g vb n) (o : Own w lo hi e v cs) (gr : w.grownBy w' v.ownBlock) (ht : 109 ≠ e) : Cur w' g vb n := by
 obtain ⟨i, x, hr, hi⟩ := h
 exact ⟨i, x, rowGro hr gr (Own.neRow o hr ht), hi⟩
theorem Own.blockG {w : World} {lo hi n cap : Nat} {e : TypeId} {ao : Option Addr} {cs : List Value} (h : Own w lo hi e (.slice ao n cap) cs) (hp : 0 < n) : ∃ gb, ao = some ⟨gb, 0, none⟩ ∧ lo ≤ gb ∧ gb < hi ∧ (∃ cur, w.heap[gb]? = some (.cells cur e (0, 0)) ∧ 0 < cur.size) := by
 obtain ⟨⟨h1, h2⟩, h3⟩ := h
 rcases h2 with ⟨he, h0⟩ | ⟨g', cap', cur, he, hb, hg, hnc, hcm, hcs, ht⟩
 ·
  simp only [Value.slice.injEq] at he
  omega
 ·
  simp only [Value.slice.injEq] at he
  obtain ⟨rfl, rfl, rfl⟩ := he
  exact ⟨g', rfl, hb, h3 g' rfl, cur, hg, by omega⟩
theorem Own.cellAt {w : World} {lo hi gb n cap : Nat} {e : TypeId} {cs : List Value} (h : Own w lo hi e (.slice (some ⟨gb, 0, none⟩) n cap) cs) {j : Nat} {x : Value} (hj : cs[j]? = some x) : w.cell? ⟨gb, j, none⟩ = some x := by
 obtain ⟨⟨h1, h2⟩, h3⟩ := h
 rcases h2 with ⟨he, h0⟩ | ⟨g', cap', cur, he, hb, hg, hnc, hcm, hcs, ht⟩
 ·
  cases he
 ·
  simp only [Value.slice.injEq, Option.some.injEq, Addr.mk.injEq] at he
  obtain ⟨⟨rfl, _⟩, rfl, rfl⟩ := he
  rw [← ht, List.getElem?_take] at hj
  split at hj
  ·
   simpa [World.cell?, hg] using hj
  ·
   cases hj
end Go.Proofs.YtchonoonclllbaaGreatDoor.Draw
namespace Go.Proofs.YtchonoonclllbaaGreatDoor.Gets
open Go.RowKit Go.Proofs.YtchonoonclllbaaGreatDoor.Mem Go.Proofs.YtchonoonclllbaaGreatDoor.Plain
set_option linter.unusedVariables false
theorem ret3 {a a' b b' : Int} {c c' : Bool} (h1 : a = a') (h2 : b = b') (h3 : c = c') : Ending.returned (.tuple #[.int .i64 a, .int .i64 b, .bool c]) = .returned (.tuple #[.int .i64 a', .int .i64 b', .bool c']) := by rw [h1, h2, h3]
theorem getNum_out {xs : List Int} {at_ : Int} (h : at_ < 0 ∨ (xs.length : Int) ≤ at_) : getNum xs at_ = (0, 0, false) := by
 unfold getNum; rw [if_neg (by omega)]
theorem getNum_none {xs : List Int} {a : Nat} (ha : a < xs.length) (h : dec 0 0 1 (xs.drop a) = none) : getNum xs (a : Int) = (0, 0, false) := by
 unfold getNum; rw [if_pos (by omega)]; simp [h]
theorem getNum_some {xs : List Int} {a : Nat} {n : Int} {k : Nat} (ha : a < xs.length) (h : dec 0 0 1 (xs.drop a) = some (n, k)) : getNum xs (a : Int) = (n, (a : Int) + k, true) := by
 unfold getNum; rw [if_pos (by omega)]; simp [h]
theorem drop_at {xs : List Int} {a k : Nat} {c : Int} (h : xs[a + k]? = some c) : xs.drop (a + k) = c :: xs.drop (a + (k + 1)) := by
 obtain ⟨hk, rfl⟩ := List.getElem?_eq_some_iff.1 h
 rw [List.drop_eq_getElem_cons hk]; rfl
theorem dec_more {k : Nat} {N W c : Int} {r : List Int} (h5 : k ≠ 5) (hc : 128 ≤ c) : dec k N W (c :: r) = dec (k + 1) (N + c % 128 * W) (W * 128) r := by
 rw [dec, if_neg h5, if_pos hc]
theorem dec_five {N W c : Int} {r : List Int} : dec 5 N W (c :: r) = none := by rw [dec, if_pos rfl]
theorem dec_bad {k : Nat} {N W c : Int} {r : List Int} (h5 : k ≠ 5) (hc : c < 128) (hb : 1000000000 < N + c % 128 * W ∨ (0 < k ∧ c % 128 = 0)) : dec k N W (c :: r) = none := by
 rw [dec, if_neg h5, if_neg (by omega), if_pos hb]
theorem dec_good {k : Nat} {N W c : Int} {r : List Int} (h5 : k ≠ 5) (hc : c < 128) (hb : ¬ (1000000000 < N + c % 128 * W ∨ (0 < k ∧ c % 128 = 0))) : dec k N W (c :: r) = some (N + c % 128 * W, k + 1) := by
 rw [dec, if_neg h5, if_neg (by omega), if_neg hb]
theorem pow_bd {k : Nat} (hk : k < 5) : 1 ≤ (128 : Int) ^ k ∧ (128 : Int) ^ k ≤ 268435456 := by
 rcases (show k = 0 ∨ k = 1 ∨ k = 2 ∨ k = 3 ∨ k = 4 by omega) with rfl | rfl | rfl | rfl | rfl <;> decide
theorem prod_bd {c W : Int} (hW : 1 ≤ W) : 0 ≤ c % 128 * W ∧ c % 128 * W ≤ 127 * W :=
 ⟨Int.mul_nonneg (by omega) (by omega), Int.mul_le_mul_of_nonneg_right (by omega) (by omega)⟩
set_option maxHeartbeats 1000000 in
theorem get_impl (w : World) (v : Value) (xs : List Int) (at_ : Int) (h : Sl w v (bs xs)) (hb : Byt xs) (hx : xs.length ≤ 140737488355328) (hlo : -9223372036854775808 ≤ at_) (hhi : at_ ≤ 9223372036854775807) :
  Calls Tryz.prog 186 #[v, .int .i64 at_] w fun e w' => e = .returned (.tuple #[.int .i64 (getNum xs at_).1, .int .i64 (getNum xs at_).2.1, .bool (getNum xs at_).2.2]) ∧ w' = w := by
 obtain ⟨ao, cap, rfl, hc1, _, hr1⟩ := h
 rw [bs_len] at hr1 hc1
 rw [bs_len]
 by_cases h0 : at_ < 0
 ·
  have HG : Hid (getNum xs at_ = (0, 0, false)) := getNum_out (.inl h0)
  go_enter Tryz.func186, Tryz.ntmps186
  go_wp2
  go_ret3
  exact ⟨by rw [HG.out]; rfl, rfl⟩
 by_cases h1 : (xs.length : Int) ≤ at_
 ·
  have HG : Hid (getNum xs at_ = (0, 0, false)) := getNum_out (.inr h1)
  go_enter Tryz.func186, Tryz.ntmps186
  go_wp2
  go_ret3
  exact ⟨by rw [HG.out]; rfl, rfl⟩
 obtain ⟨a, rfl⟩ := Int.eq_ofNat_of_zero_le (show 0 ≤ at_ by omega)
 have ha : a < xs.length := by omega
 have hd0 : decide ((a : Int) < 0) = false := by simp
 obtain ⟨b, off, rfl, hcells⟩ := hr1 (by omega)
 clear h0 h1 hlo hhi
 go_enter Tryz.func186, Tryz.ntmps186
 go_wp2
 go_loop [7, 8, 24] (fun n wo i => ∃ (k : Nat) (N W : Int), k ≤ xs.length - a ∧ k ≤ 5 ∧ i = .int .i64 k ∧ n = .int .i64 N ∧ wo = .int .i64 W ∧ W = 128 ^ k ∧ 0 ≤ N ∧ N < W ∧ dec 0 0 1 (xs.drop a) = dec k N W (xs.drop (a + k))) (fun _ _ i => (xs.length - a) - (intOf i).toNat)
 case atStart => exact ⟨0, 0, 1, Nat.zero_le _, by omega, rfl, rfl, rfl, rfl, by omega, by omega, rfl⟩
 case round =>
  obtain ⟨k, N, W, hk, hk5, rfl, rfl, rfl, hW0, hN0, hN1, hD0⟩ := hrel
  have HD : Hid (W = 128 ^ k ∧ dec 0 0 1 (xs.drop a) = dec k N W (xs.drop (a + k))) := ⟨hW0, hD0⟩
  clear hD0 hW0
  by_cases hlt : k < xs.length - a
  ·
   obtain ⟨c, hc0⟩ : ∃ c, xs[a + k]? = some c := ⟨xs[a + k]'(by omega), by simp⟩
   have hcell : w.cell? ⟨b, off + a + k, none⟩ = some (.int .u8 c) := by
    rw [Nat.add_assoc, hcells (a + k) (by omega), bs_get, hc0]; rfl
   have hby := hb.at hc0
   have HC : Hid (xs.drop (a + k) = c :: xs.drop (a + (k + 1))) := drop_at hc0
   clear hcells hc0 hb
   by_cases h5 : k = 5
   ·
    have HR : Hid (getNum xs (a : Int) = (0, 0, false)) := getNum_none ha (by rw [HD.out.2, HC.out, h5]; exact dec_five)
    have h5' : ((k : Int) == 5) = true := by simp; omega
    clear HD HC h5
    go_wp2
    go_ret3
    exact ⟨by rw [HR.out]; rfl, rfl⟩
   have hWb : 1 ≤ W ∧ W ≤ 268435456 := by rw [HD.out.1]; exact pow_bd (by omega)
   have hpb := prod_bd (c := c) hWb.1
   have h5' : ((k : Int) == 5) = false := by simp; omega
   by_cases hge : 128 ≤ c
   ·
    have HR : Hid (W * 128 = 128 ^ (k + 1) ∧ dec 0 0 1 (xs.drop a) = dec (k + 1) (N + c % 128 * W) (W * 128) (xs.drop (a + (k + 1)))) :=
     ⟨by rw [HD.out.1, Int.pow_succ], by rw [HD.out.2, HC.out, dec_more h5 hge]⟩
    clear HD HC
    go_wp2
    go_round
    case rel => exact ⟨k + 1, N + c % 128 * W, W * 128, by omega, by omega, by go_num, rfl, rfl, HR.out.1, by omega, by omega, HR.out.2⟩
    case measure => simp [intOf]; omega
   ·
    have hlt8 : c < 128 := by omega
    by_cases hbig : 1000000000 < N + c % 128 * W
    ·
     have HR : Hid (getNum xs (a : Int) = (0, 0, false)) := getNum_none ha (by rw [HD.out.2, HC.out]; exact dec_bad h5 hlt8 (.inl hbig))
     have hdec : decide (1000000000 < N + c % 128 * W) = true := by simpa using hbig
     clear HD HC
     go_wp2
     go_ret3
     exact ⟨by rw [HR.out]; rfl, rfl⟩
    ·
     have hdec : decide (1000000000 < N + c % 128 * W) = false := by simpa using hbig
     by_cases hk0 : 0 < k
     ·
      have hdk : decide ((0 : Int) < (k : Int)) = true := by simpa using hk0
      by_cases hz : c % 128 = 0
      ·
       have HR : Hid (getNum xs (a : Int) = (0, 0, false)) := getNum_none ha (by rw [HD.out.2, HC.out]; exact dec_bad h5 hlt8 (.inr ⟨hk0, hz⟩))
       have hz' : (c % 128 == 0) = true := by simpa using hz
       clear HD HC hz
       go_wp2
       go_ret3
       exact ⟨by rw [HR.out]; rfl, rfl⟩
      ·
       have HR : Hid (getNum xs (a : Int) = (N + c % 128 * W, (a : Int) + ((k + 1 : Nat) : Int), true)) := getNum_some ha (by rw [HD.out.2, HC.out]; exact dec_good h5 hlt8 (by omega))
       have hz' : (c % 128 == 0) = false := by simpa using hz
       clear HD HC hz
       go_wp2
       go_ret3
       exact ⟨by rw [HR.out]; exact ret3 rfl (by dsimp only; omega) rfl, rfl⟩
     ·
      have hdk : decide ((0 : Int) < (k : Int)) = false := by simpa using hk0
      have HR : Hid (getNum xs (a : Int) = (N + c % 128 * W, (a : Int) + ((k + 1 : Nat) : Int), true)) := getNum_some ha (by rw [HD.out.2, HC.out]; exact dec_good h5 hlt8 (by omega))
      clear HD HC
      go_wp2
      go_ret3
      exact ⟨by rw [HR.out]; exact ret3 rfl (by dsimp only; omega) rfl, rfl⟩
  ·
   have HR : Hid (getNum xs (a : Int) = (0, 0, false)) := getNum_none ha (by rw [HD.out.2, List.drop_eq_nil_of_le (by omega)]; rfl)
   clear HD
   go_wp2
   go_ret3
   exact ⟨by rw [HR.out]; rfl, rfl⟩
end Go.Proofs.YtchonoonclllbaaGreatDoor.Gets
namespace Go.Proofs.YtchonoonclllbaaGreatDoor.Plain
open Go.Proofs.YtchonoonclllbaaGreatDoor.Mem Go.Proofs.YtchonoonclllbaaGreatDoor.Laws Go.Proofs.YtchonoonclllbaaGreatDoor.Puts Go.Proofs.YtchonoonclllbaaGreatDoor.Gets
theorem split_mul (m : Nat) (W : Int) : ((m % 128 : Nat) : Int) * W + ((m / 128 : Nat) : Int) * (W * 128) = (m : Int) * W := by
 have h : (m : Int) = ((m / 128 : Nat) : Int) * 128 + ((m % 128 : Nat) : Int) := by omega
 have e : (m : Int) * W = (((m / 128 : Nat) : Int) * 128 + ((m % 128 : Nat) : Int)) * W := by rw [← h]
 rw [e, Int.add_mul, Int.mul_assoc, Int.mul_comm 128 W, Int.add_comm]
theorem dec_enc (f : Nat) : ∀ (m : Nat) (k : Nat) (N W : Int) (r : List Int), m ≤ f → 0 ≤ N → 0 ≤ W → N + (m : Int) * W ≤ 1000000000 → k + (enc m).length ≤ 5 → (k = 0 ∨ 0 < m) → dec k N W (enc m ++ r) = some (N + (m : Int) * W, k + (enc m).length) := by
 induction f with
 | zero =>
  intro m k N W r hm h0 hW hN hk hz
  obtain rfl : m = 0 := by omega
  rw [enc_small (by omega)] at hk ⊢
  have hk0 : k = 0 := by omega
  subst hk0
  exact dec_good (by omega) (by omega) (by rintro (h | h) <;> simp at * <;> omega)
 | succ f ih =>
  intro m k N W r hm h0 hW hN hk hz
  by_cases hs : m < 128
  ·
   rw [enc_small hs] at hk ⊢
   have e : ((m : Nat) : Int) % 128 = (m : Int) := by omega
   have hg := dec_good (k := k) (N := N) (W := W) (c := (m : Int)) (r := r) (by simp at hk; omega) (by omega) (by rw [e]; omega)
   rw [e] at hg
   exact hg
  ·
   rw [enc_step hs] at hk ⊢
   simp only [List.length_cons] at hk
   have e : ((m % 128 + 128 : Nat) : Int) % 128 = ((m % 128 : Nat) : Int) := by omega
   have hstep := dec_more (k := k) (N := N) (W := W) (c := ((m % 128 + 128 : Nat) : Int)) (r := enc (m / 128) ++ r) (by omega) (by omega)
   rw [e] at hstep
   have hsm := split_mul m W
   have hp : 0 ≤ ((m % 128 : Nat) : Int) * W := Int.mul_nonneg (by omega) hW
   have hih := ih (m / 128) (k + 1) (N + ((m % 128 : Nat) : Int) * W) (W * 128) r (by omega) (by omega) (by omega) (by omega) (by omega) (.inr (by omega))
   rw [List.cons_append, hstep, hih]
   simp only [List.length_cons, Option.some.injEq, Prod.mk.injEq]
   omega
theorem num_eq (n : Int) : num n = enc (clampN n).toNat := rfl
theorem getNum_back (ys r : List Int) (n : Int) : getNum (ys ++ (num n ++ r)) (ys.length : Int) = (clampN n, (ys.length : Int) + (num n).length, true) := by
 have hb := clampN_bd n
 have hl := num_len n
 have e : ((clampN n).toNat : Int) = clampN n := by omega
 have hd := dec_enc (clampN n).toNat (clampN n).toNat 0 0 1 r (Nat.le_refl _) (by omega) (by omega) (by omega) (by rw [← num_eq]; omega) (.inl rfl)
 rw [← num_eq] at hd
 have hlen : ys.length < (ys ++ (num n ++ r)).length := by simp; omega
 have h := getNum_some (xs := ys ++ (num n ++ r)) (a := ys.length) hlen (by rw [List.drop_append, List.drop_eq_nil_of_le (Nat.le_refl _), Nat.sub_self, List.nil_append, List.drop_zero]; exact hd)
 rw [h]
 simp only [Prod.mk.injEq, and_true]
 omega
theorem u8s_sb (s : ByteArray) : u8s (sb s) = s.data.toList := by
 unfold u8s sb
 rw [List.map_map]
 have h : ((fun x : Int => UInt8.ofNat x.toNat) ∘ fun b : UInt8 => (b.toNat : Int)) = id := by
  funext b
  simp
 rw [h, List.map_id]
theorem txt_sb (s : ByteArray) : txt (sb s) = s := by
 unfold txt
 rw [u8s_sb]
theorem clamp_size {n : Nat} (h : n ≤ 1000000000) : clampN (n : Int) = (n : Int) := by
 unfold clampN
 rw [if_neg (by omega), if_neg (by omega)]
theorem getText_back (ys r : List Int) (s : ByteArray) (hs : s.size ≤ 1000000000) : getText (ys ++ (tx s ++ r)) (ys.length : Int) = (s, (ys.length : Int) + (tx s).length, true) := by
 have hg := getNum_back ys (sb s ++ r) (s.size : Int)
 rw [clamp_size hs] at hg
 have e : ys ++ (tx s ++ r) = ys ++ (num (s.size : Int) ++ (sb s ++ r)) := by unfold tx; rw [List.append_assoc]
 rw [e]
 have hl : (ys ++ (num (s.size : Int) ++ (sb s ++ r))).length = ys.length + ((num (s.size : Int)).length + (s.size + r.length)) := by
  simp only [List.length_append, sb_len]
 have hg2 : getNum (ys ++ (num (s.size : Int) ++ (sb s ++ r))) (ys.length : Int) = ((s.size : Int), ((ys.length + (num (s.size : Int)).length : Nat) : Int), true) := by
  rw [hg]; simp
 have h := getText_yes hg2 (by rw [hl]; omega)
 rw [h]
 have hd : ((ys ++ (num (s.size : Int) ++ (sb s ++ r))).drop (ys.length + (num (s.size : Int)).length)).take s.size = sb s := by
  rw [← List.append_assoc, List.drop_append, List.drop_eq_nil_of_le (by simp), List.nil_append, show ys.length + (num (s.size : Int)).length - (ys ++ num (s.size : Int)).length = 0 by simp, List.drop_zero, List.take_append_of_le_length (by rw [sb_len]; exact Nat.le_refl _), List.take_of_length_le (by rw [sb_len]; exact Nat.le_refl _)]
 rw [hd, txt_sb]
 have ht : (tx s).length = (num (s.size : Int)).length + s.size := by unfold tx; rw [List.length_append, sb_len]
 rw [ht]
 simp only [Prod.mk.injEq, and_true, true_and]
 omega
theorem rd_back (l : List ByteArray) : ∀ (ys r : List Int), (∀ s ∈ l, s.size ≤ 1000000000) → rd (ys ++ (txs l ++ r)) l.length (ys.length : Int) = some (l, (ys.length : Int) + (txs l).length) := by
 induction l with
 | nil => intro ys r _; simp [rd, txs]
 | cons s t ih =>
  intro ys r hs
  have e : ys ++ (txs (s :: t) ++ r) = ys ++ (tx s ++ (txs t ++ r)) := by simp only [txs, List.append_assoc]
  have e2 : ys ++ (tx s ++ (txs t ++ r)) = (ys ++ tx s) ++ (txs t ++ r) := by simp only [List.append_assoc]
  rw [e, List.length_cons, rd_yes (getText_back ys (txs t ++ r) s (hs s (List.mem_cons_self ..))), e2]
  have h := ih (ys ++ tx s) r (fun x hx => hs x (List.mem_cons_of_mem _ hx))
  have e3 : ((ys ++ tx s).length : Int) = (ys.length : Int) + ((tx s).length : Int) := by rw [List.length_append]; omega
  rw [e3] at h
  rw [h]
  simp only [Option.map_some, txs, List.length_append, Option.some.injEq, Prod.mk.injEq, true_and]
  omega
theorem getTexts_back (ys r : List Int) (l : List ByteArray) (hl : l.length ≤ 200) (hs : ∀ s ∈ l, s.size ≤ 1000000000) :
  getTexts ((ys ++ num (l.length : Int) ++ txs l) ++ r) (ys.length : Int) = (l, ((ys ++ num (l.length : Int) ++ txs l).length : Int), true) := by
 have hg := getNum_back ys (txs l ++ r) (l.length : Int)
 rw [clamp_size (by omega)] at hg
 have e : (ys ++ num (l.length : Int) ++ txs l) ++ r = ys ++ (num (l.length : Int) ++ (txs l ++ r)) := by simp only [List.append_assoc]
 have e2 : ys ++ (num (l.length : Int) ++ (txs l ++ r)) = (ys ++ num (l.length : Int)) ++ (txs l ++ r) := by simp only [List.append_assoc]
 rw [e]
 have hr := rd_back l (ys ++ num (l.length : Int)) r hs
 rw [← e2] at hr
 have e3 : ((ys ++ num (l.length : Int)).length : Int) = (ys.length : Int) + ((num (l.length : Int)).length : Int) := by rw [List.length_append]; omega
 rw [e3] at hr
 rw [getTexts_some hg hl hr]
 simp only [List.length_append, Prod.mk.injEq, true_and, and_true]
 omega
end Go.Proofs.YtchonoonclllbaaGreatDoor.Plain
namespace Go.Proofs.YtchonoonclllbaaGreatDoor.Can
open Go.RowKit Go.Proofs.YtchonoonclllbaaGreatDoor.Mem Go.Proofs.YtchonoonclllbaaGreatDoor.Laws Go.Proofs.YtchonoonclllbaaGreatDoor.Sha
set_option linter.unusedVariables false
set_option linter.unusedSimpArgs false
theorem dec_canon : ∀ (l : List Int) (k : Nat) (N W n : Int) (k' : Nat), Plain.dec k N W l = some (n, k') → Byt l → ∃ m : Nat, n = N + (m : Int) * W ∧ k' = k + (Plain.enc m).length ∧ l = Plain.enc m ++ l.drop (Plain.enc m).length ∧ (0 < k → 0 < m) := by
 intro l
 induction l with
 | nil => intro k N W n k' h; simp [Plain.dec] at h
 | cons c r ih =>
  intro k N W n k' h hb
  have hc : 0 ≤ c ∧ c ≤ 255 := hb c (by simp)
  rw [Plain.dec] at h
  split at h
  ·
   cases h
  ·
   split at h
   ·
    rename_i h5 h128
    obtain ⟨m, hn, hk, hl, hm⟩ := ih _ _ _ _ _ h (fun x hx => hb x (by simp [hx]))
    have hm0 := hm (by omega)
    obtain ⟨d, hd⟩ : ∃ d : Nat, c = (d : Int) := ⟨c.toNat, by omega⟩
    subst hd
    have e1 : (d % 128 + 128 * m) % 128 + 128 = d := by omega
    have e2 : (d % 128 + 128 * m) / 128 = m := by omega
    have henc : Plain.enc (d % 128 + 128 * m) = (d : Int) :: Plain.enc m := by rw [Plain.enc_step (by omega), e1, e2]
    refine ⟨d % 128 + 128 * m, ?_, ?_, ?_, fun _ => by omega⟩
    ·
     rw [hn]
     have : (((d % 128 + 128 * m : Nat) : Int)) = (d : Int) % 128 + 128 * (m : Int) := by omega
     rw [this, Int.add_mul, Int.add_assoc, Int.mul_comm W 128, ← Int.mul_assoc, Int.mul_comm (m : Int) 128]
    ·
     rw [hk, henc, List.length_cons]; omega
    ·
     rw [henc]
     simp only [List.cons_append, List.length_cons, List.drop_succ_cons]
     rw [← hl]
   ·
    split at h
    ·
     cases h
    ·
     rename_i h5 h128 hbad
     simp only [Option.some.injEq, Prod.mk.injEq] at h
     obtain ⟨rfl, rfl⟩ := h
     obtain ⟨d, hd⟩ : ∃ d : Nat, c = (d : Int) := ⟨c.toNat, by omega⟩
     subst hd
     have hd128 : d < 128 := by omega
     have e : (d : Int) % 128 = (d : Int) := by omega
     refine ⟨d, by rw [e], by rw [Plain.enc_small hd128]; rfl, by rw [Plain.enc_small hd128]; simp, fun hk => ?_⟩
     rw [not_or] at hbad
     rw [e] at hbad
     omega
theorem num_enc {n : Int} {m : Nat} (h : n = (m : Int)) (hm : n ≤ 1000000000) : Puts.num n = Plain.enc m := by
 rw [Plain.num_eq, h, Plain.clamp_size (by omega)]
 simp
theorem dec_bd : ∀ (l : List Int) (k : Nat) (N W n : Int) (k' : Nat), Plain.dec k N W l = some (n, k') → n ≤ 1000000000 := by
 intro l
 induction l with
 | nil => intro k N W n k' h; simp [Plain.dec] at h
 | cons c r ih =>
  intro k N W n k' h
  rw [Plain.dec] at h
  split at h
  ·
   cases h
  ·
   split at h
   ·
    exact ih _ _ _ _ _ h
   ·
    split at h
    ·
     cases h
    ·
     rename_i hbad
     simp only [Option.some.injEq, Prod.mk.injEq] at h
     rw [not_or] at hbad
     omega
theorem getNum_canon {xs : List Int} {a : Nat} {n p : Int} (hb : Byt xs) (h : Plain.getNum xs (a : Int) = (n, p, true)) : ∃ q : Nat, p = (q : Int) ∧ 0 ≤ n ∧ n ≤ 1000000000 ∧ a ≤ xs.length ∧ xs.drop a = Puts.num n ++ xs.drop q := by
 unfold Plain.getNum at h
 split at h
 ·
  rename_i hc
  rw [show ((a : Int)).toNat = a from rfl] at h
  split at h
  ·
   rename_i n' k hd
   simp only [Prod.mk.injEq, and_true] at h
   obtain ⟨rfl, rfl⟩ := h
   obtain ⟨m, hn, hk, hl, _⟩ := dec_canon _ _ _ _ _ _ hd (fun x hx => hb x (List.mem_of_mem_drop hx))
   have h9 := dec_bd _ _ _ _ _ _ hd
   have hn' : n' = (m : Int) := by omega
   refine ⟨a + k, by omega, by omega, h9, by omega, ?_⟩
   rw [num_enc hn' h9]
   have hk' : k = (Plain.enc m).length := by omega
   rw [← List.drop_drop, hk']
   exact hl
  ·
   simp at h
 ·
  simp at h
theorem getText_canon {xs : List Int} {a : Nat} {s : ByteArray} {p : Int} (hb : Byt xs) (h : Plain.getText xs (a : Int) = (s, p, true)) : ∃ q : Nat, p = (q : Int) ∧ s.size ≤ 1000000000 ∧ xs.drop a = Puts.tx s ++ xs.drop q := by
 unfold Plain.getText at h
 split at h
 ·
  rename_i hc
  obtain ⟨n, q, ok, hg⟩ : ∃ n q ok, Plain.getNum xs (a : Int) = (n, q, ok) := ⟨_, _, _, rfl⟩
  rw [hg] at h hc
  simp only at h hc
  obtain ⟨rfl, hc2⟩ := hc
  simp only [Prod.mk.injEq, and_true] at h
  obtain ⟨rfl, rfl⟩ := h
  obtain ⟨q', rfl, hn0, hn9, _, hd⟩ := getNum_canon hb hg
  obtain ⟨m, rfl⟩ : ∃ m : Nat, n = (m : Int) := ⟨n.toNat, by omega⟩
  have hsz : (Plain.txt ((xs.drop ((q' : Int)).toNat).take ((m : Int)).toNat)).size = m := by
   rw [txt_size]
   simp
   omega
  have hsb : sb (Plain.txt ((xs.drop ((q' : Int)).toNat).take ((m : Int)).toNat)) = (xs.drop q').take m := by
   rw [sb_txt (fun x hx => hb x (List.mem_of_mem_drop (List.mem_of_mem_take hx)))]
   rfl
  refine ⟨q' + m, by omega, by omega, ?_⟩
  unfold Puts.tx
  rw [hsz, hsb, hd, List.append_assoc, ← List.drop_drop, List.take_append_drop]
 ·
  simp at h
theorem rd_canon {xs : List Int} (hb : Byt xs) : ∀ (n a : Nat) (l : List ByteArray) (p : Int), Plain.rd xs n (a : Int) = some (l, p) → ∃ q : Nat, p = (q : Int) ∧ l.length = n ∧ xs.drop a = Puts.txs l ++ xs.drop q := by
 intro n
 induction n with
 | zero =>
  intro a l p h
  simp [Plain.rd] at h
  obtain ⟨rfl, rfl⟩ := h
  exact ⟨a, rfl, rfl, rfl⟩
 | succ n ih =>
  intro a l p h
  rw [Plain.rd] at h
  split at h
  ·
   rename_i hok
   obtain ⟨s, q, ok, hg⟩ : ∃ s q ok, Plain.getText xs (a : Int) = (s, q, ok) := ⟨_, _, _, rfl⟩
   rw [hg] at h hok
   simp only at h hok
   subst hok
   obtain ⟨q', rfl, _, hd⟩ := getText_canon hb hg
   rw [Option.map_eq_some_iff] at h
   obtain ⟨⟨l2, q2⟩, h1, h2⟩ := h
   simp only [Prod.mk.injEq] at h2
   obtain ⟨rfl, rfl⟩ := h2
   obtain ⟨q3, hq3, hl3, hd3⟩ := ih _ _ _ h1
   refine ⟨q3, hq3, by simp [hl3], ?_⟩
   rw [hd, hd3]
   simp [Puts.txs]
  ·
   cases h
theorem getTexts_canon {xs : List Int} {a : Nat} {l : List ByteArray} {p : Int} (hb : Byt xs) (h : Plain.getTexts xs (a : Int) = (l, p, true)) : ∃ q : Nat, p = (q : Int) ∧ xs.drop a = Puts.num (l.length : Int) ++ Puts.txs l ++ xs.drop q := by
 unfold Plain.getTexts at h
 split at h
 ·
  rename_i hc
  obtain ⟨n, q, ok, hg⟩ : ∃ n q ok, Plain.getNum xs (a : Int) = (n, q, ok) := ⟨_, _, _, rfl⟩
  rw [hg] at h hc
  simp only at h hc
  obtain ⟨rfl, hc2⟩ := hc
  obtain ⟨q', rfl, hn0, hn9, _, hd⟩ := getNum_canon hb hg
  obtain ⟨m, rfl⟩ : ∃ m : Nat, n = (m : Int) := ⟨n.toNat, by omega⟩
  split at h
  ·
   rename_i l' q2 hr
   simp only [Prod.mk.injEq, and_true] at h
   obtain ⟨rfl, rfl⟩ := h
   obtain ⟨q3, hq3, hl3, hd3⟩ := rd_canon hb _ _ _ _ hr
   refine ⟨q3, hq3, ?_⟩
   have : l'.length = m := by rw [hl3]; rfl
   rw [hd, hd3, this, List.append_assoc]
  ·
   simp at h
 ·
  simp at h
end Go.Proofs.YtchonoonclllbaaGreatDoor.Can
namespace Go.Proofs.YtchonoonclllbaaGreatDoor.Sr
open Go.RowKit Go.Proofs.YtchonoonclllbaaGreatDoor.Mem Go.Proofs.YtchonoonclllbaaGreatDoor.Laws Go.Proofs.YtchonoonclllbaaGreatDoor.Sha Go.Proofs.YtchonoonclllbaaGreatDoor.Tr Go.Proofs.YtchonoonclllbaaGreatDoor.He
set_option linter.unusedVariables false
set_option linter.unusedSimpArgs false
def body (h : Hd) (x : List ByteArray) : List Int := Puts.num h.n ++ Puts.tx h.r ++ (Puts.num (x.length : Int) ++ Puts.txs x)
def sum4 (b : List Int) : List Int := (digest b).take 4
def put (h : Hd) (x : List ByteArray) : List Int := Puts.num ((body h x).length : Int) ++ (body h x ++ sum4 (body h x))
def putC (h : Hd) (x : List ByteArray) : List Int := if okH h = true ∧ 1 ≤ x.length ∧ x.length ≤ 200 then put h x else []
theorem txs_byt : ∀ l : List ByteArray, Byt (Puts.txs l) := by
 intro l
 induction l with
 | nil => intro x hx; cases hx
 | cons s r ih => exact (Puts.tx_byt s).app ih
theorem body_byt (h : Hd) (x : List ByteArray) : Byt (body h x) := ((Puts.num_byt _).app (Puts.tx_byt _)).app ((Puts.num_byt _).app (txs_byt _))
theorem sum4_byt (b : List Int) : Byt (sum4 b) := fun x hx => digest_byt b x (List.mem_of_mem_take hx)
theorem sum4_len (b : List Int) : (sum4 b).length = 4 := by unfold sum4; rw [List.length_take, digest_len]; rfl
theorem put_byt (h : Hd) (x : List ByteArray) : Byt (put h x) := (Puts.num_byt _).app ((body_byt _ _).app (sum4_byt _))
theorem body_len (h : Hd) (x : List ByteArray) : (body h x).length ≤ h.r.size + 15 + 5 * x.length + Puts.tot x := by
 have h1 := Puts.tx_len h.r
 have h2 := Puts.txs_len x
 have h3 := (Puts.num_len h.n).2
 have h4 := (Puts.num_len (x.length : Int)).2
 unfold body
 simp only [List.length_append]
 omega
theorem put_len (h : Hd) (x : List ByteArray) : (put h x).length ≤ (body h x).length + 9 := by
 have h3 := (Puts.num_len ((body h x).length : Int)).2
 have h4 := sum4_len (body h x)
 unfold put
 simp only [List.length_append]
 omega
theorem put_pos (h : Hd) (x : List ByteArray) : 5 ≤ (put h x).length := by
 have h3 := (Puts.num_len ((body h x).length : Int)).1
 have h4 := sum4_len (body h x)
 unfold put
 simp only [List.length_append]
 omega
def no12 (a : Int) : Hd × List ByteArray × Int × Bool := (hd0, [], a, false)
def inBody (b : List Int) : Option (Hd × List ByteArray) :=
 if (Plain.getNum b 0).2.2 = true ∧ (Plain.getText b (Plain.getNum b 0).2.1).2.2 = true ∧ (Plain.getTexts b (Plain.getText b (Plain.getNum b 0).2.1).2.1).2.2 = true ∧
   (Plain.getTexts b (Plain.getText b (Plain.getNum b 0).2.1).2.1).2.1 = (b.length : Int) ∧ okH ⟨(Plain.getNum b 0).1, (Plain.getText b (Plain.getNum b 0).2.1).1⟩ = true ∧
   ¬ (Plain.getTexts b (Plain.getText b (Plain.getNum b 0).2.1).2.1).1.length = 0
 then some (⟨(Plain.getNum b 0).1, (Plain.getText b (Plain.getNum b 0).2.1).1⟩, (Plain.getTexts b (Plain.getText b (Plain.getNum b 0).2.1).2.1).1)
 else none
def getC (xs : List Int) (a : Int) : Hd × List ByteArray × Int × Bool :=
 if (Plain.getNum xs a).2.2 = true ∧ (Plain.getNum xs a).1 ≤ (xs.length : Int) - (Plain.getNum xs a).2.1 - 4 then
  match inBody ((xs.drop (Plain.getNum xs a).2.1.toNat).take (Plain.getNum xs a).1.toNat) with
  | some (h, x) =>
   if (xs.drop ((Plain.getNum xs a).2.1.toNat + (Plain.getNum xs a).1.toNat)).take 4 = sum4 ((xs.drop (Plain.getNum xs a).2.1.toNat).take (Plain.getNum xs a).1.toNat) then
    (h, x, (Plain.getNum xs a).2.1 + (Plain.getNum xs a).1 + 4, true)
   else no12 a
  | none => no12 a
 else no12 a
theorem okH_parts {h : Hd} (hk : okH h = true) : 0 ≤ h.n ∧ h.n ≤ 200 ∧ h.r.size = 32 := by
 unfold okH at hk
 simp only [decide_eq_true_eq] at hk
 exact ⟨hk.1.1, hk.1.2, hk.2⟩
theorem inBody_body {h : Hd} {x : List ByteArray} (hk : okH h = true) (h1 : 1 ≤ x.length) (h2 : x.length ≤ 200) (hs : ∀ s ∈ x, s.size ≤ 1000000000) : inBody (body h x) = some (h, x) := by
 obtain ⟨k0, k1, k2⟩ := okH_parts hk
 have e1 : Plain.getNum (body h x) 0 = (h.n, ((Puts.num h.n).length : Int), true) := by
  have g := Plain.getNum_back [] (Puts.tx h.r ++ (Puts.num (x.length : Int) ++ Puts.txs x)) h.n
  have e : body h x = [] ++ (Puts.num h.n ++ (Puts.tx h.r ++ (Puts.num (x.length : Int) ++ Puts.txs x))) := by unfold body; simp only [List.append_assoc, List.nil_append]
  have ec : Plain.clampN h.n = h.n := by unfold Plain.clampN; rw [if_neg (by omega), if_neg (by omega)]
  rw [e]
  simpa [ec] using g
 have e2 : Plain.getText (body h x) ((Puts.num h.n).length : Int) = (h.r, (((Puts.num h.n).length + (Puts.tx h.r).length : Nat) : Int), true) := by
  have g := Plain.getText_back (Puts.num h.n) (Puts.num (x.length : Int) ++ Puts.txs x) h.r (by omega)
  have e : body h x = Puts.num h.n ++ (Puts.tx h.r ++ (Puts.num (x.length : Int) ++ Puts.txs x)) := by unfold body; simp only [List.append_assoc]
  rw [e, g]
  simp
 have e3 : Plain.getTexts (body h x) (((Puts.num h.n).length + (Puts.tx h.r).length : Nat) : Int) = (x, ((body h x).length : Int), true) := by
  have g := Plain.getTexts_back (Puts.num h.n ++ Puts.tx h.r) [] x h2 hs
  have e : body h x = (Puts.num h.n ++ Puts.tx h.r ++ Puts.num (x.length : Int) ++ Puts.txs x) ++ [] := by unfold body; simp only [List.append_assoc, List.append_nil]
  rw [List.length_append] at g
  rw [e, g]
  simp
 unfold inBody
 rw [e1]
 simp only
 rw [e2]
 simp only
 rw [e3]
 simp only
 rw [if_pos ⟨trivial, trivial, trivial, trivial, hk, by omega⟩]
theorem size_txs {t : ByteArray} : ∀ l : List ByteArray, t ∈ l → t.size ≤ (Puts.txs l).length := by
 intro l
 induction l with
 | nil => intro h; cases h
 | cons a r ih =>
  intro h
  simp only [Puts.txs, List.length_append]
  rcases List.mem_cons.1 h with rfl | h
  ·
   have : (Puts.tx t).length = (Puts.num (t.size : Int)).length + t.size := by unfold Puts.tx; rw [List.length_append, sb_len]
   omega
  ·
   have := ih h; omega
theorem body_inBody {b : List Int} {h : Hd} {x : List ByteArray} (hb : Byt b) (hi : inBody b = some (h, x)) : b = body h x ∧ okH h = true ∧ 1 ≤ x.length ∧ x.length ≤ 200 ∧ ∀ s ∈ x, s.size ≤ b.length := by
 unfold inBody at hi
 split at hi
 ·
  rename_i hc
  simp only [Option.some.injEq, Prod.mk.injEq] at hi
  obtain ⟨n, p, ok, hg⟩ : ∃ n p ok, Plain.getNum b 0 = (n, p, ok) := ⟨_, _, _, rfl⟩
  rw [hg] at hi hc
  simp only at hi hc
  obtain ⟨r, q, ok2, hg2⟩ : ∃ r q ok, Plain.getText b p = (r, q, ok) := ⟨_, _, _, rfl⟩
  rw [hg2] at hi hc
  simp only at hi hc
  obtain ⟨l, s, ok3, hg3⟩ : ∃ l s ok, Plain.getTexts b q = (l, s, ok) := ⟨_, _, _, rfl⟩
  have hlen := Plain.getTexts_len b q
  rw [hg3] at hi hc hlen
  simp only at hi hc hlen
  obtain ⟨rfl, rfl, rfl, hs, hk, hl⟩ := hc
  obtain ⟨rfl, rfl⟩ := hi
  obtain ⟨p', rfl, _, hn9, _, hd⟩ := Can.getNum_canon (a := 0) hb hg
  obtain ⟨q', rfl, _, hd2⟩ := Can.getText_canon hb hg2
  obtain ⟨s', hs', hd3⟩ := Can.getTexts_canon hb hg3
  have es : s' = b.length := by omega
  rw [es, List.drop_of_length_le (Nat.le_refl _), List.append_nil] at hd3
  rw [List.drop_zero] at hd
  have eb : b = body ⟨n, r⟩ l := by
   conv => lhs; rw [hd, hd2, hd3]
   unfold body
   simp only [List.append_assoc]
  refine ⟨eb, hk, by omega, hlen, ?_⟩
  intro t ht
  have h5 := size_txs l ht
  rw [eb]
  unfold body
  simp only [List.length_append]
  omega
 ·
  cases hi
theorem size_body {h : Hd} {x : List ByteArray} {t : ByteArray} (ht : t ∈ x) : t.size ≤ (body h x).length := by
 have := size_txs x ht
 unfold body
 simp only [List.length_append]
 omega
theorem get_sum (ys r s4 : List Int) {h : Hd} {x : List ByteArray} (hk : okH h = true) (h1 : 1 ≤ x.length) (h2 : x.length ≤ 200) (hl : (body h x).length ≤ 1000000000) (h4 : s4.length = 4) :
  getC (ys ++ (Puts.num ((body h x).length : Int) ++ (body h x ++ s4) ++ r)) (ys.length : Int) = if s4 = sum4 (body h x) then (h, x, ((ys.length + (put h x).length : Nat) : Int), true) else no12 (ys.length : Int) := by
 have hi := inBody_body hk h1 h2 (fun s h' => Nat.le_trans (size_body (h := h) h') hl)
 have e0 : (put h x).length = (Puts.num ((body h x).length : Int)).length + (body h x).length + 4 := by unfold put; simp only [List.length_append, sum4_len]; omega
 obtain ⟨B, hB⟩ : ∃ B, body h x = B := ⟨_, rfl⟩
 rw [hB] at hi hl e0 ⊢
 obtain ⟨N, hN⟩ : ∃ N, Puts.num (B.length : Int) = N := ⟨_, rfl⟩
 have g := Plain.getNum_back ys ((B ++ s4) ++ r) (B.length : Int)
 rw [Plain.clamp_size hl] at g
 rw [hN] at g e0 ⊢
 have e : ys ++ ((N ++ (B ++ s4)) ++ r) = ys ++ (N ++ ((B ++ s4) ++ r)) := by simp only [List.append_assoc]
 rw [e]
 have g2 : Plain.getNum (ys ++ (N ++ ((B ++ s4) ++ r))) (ys.length : Int) = ((B.length : Int), ((ys.length + N.length : Nat) : Int), true) := by rw [g]; simp
 have ed : (ys ++ (N ++ ((B ++ s4) ++ r))).drop (ys.length + N.length) = B ++ (s4 ++ r) := by
  rw [← List.append_assoc, List.drop_append, List.drop_eq_nil_of_le (by simp), List.nil_append, show ys.length + N.length - (ys ++ N).length = 0 by simp, List.drop_zero, List.append_assoc]
 have et : (B ++ (s4 ++ r)).take B.length = B := by rw [List.take_append_of_le_length (Nat.le_refl _), List.take_of_length_le (Nat.le_refl _)]
 have ed2 : (ys ++ (N ++ ((B ++ s4) ++ r))).drop (ys.length + N.length + B.length) = s4 ++ r := by
  rw [← List.drop_drop, ed, List.drop_append, List.drop_eq_nil_of_le (Nat.le_refl _), Nat.sub_self, List.drop_zero, List.nil_append]
 have et2 : (s4 ++ r).take 4 = s4 := by rw [List.take_append_of_le_length (by omega), List.take_of_length_le (by omega)]
 have hlen : (ys ++ (N ++ ((B ++ s4) ++ r))).length = ys.length + N.length + B.length + 4 + r.length := by
  simp only [List.length_append]; omega
 unfold getC
 rw [g2]
 simp only [Int.toNat_natCast]
 rw [if_pos ⟨trivial, by rw [hlen]; omega⟩, ed, et, hi]
 simp only
 rw [ed2, et2]
 split
 ·
  simp only [e0, Prod.mk.injEq, true_and, and_true]
  omega
 ·
  rfl
theorem get_put (ys r : List Int) {h : Hd} {x : List ByteArray} (hk : okH h = true) (h1 : 1 ≤ x.length) (h2 : x.length ≤ 200) (hl : (body h x).length ≤ 1000000000) :
  getC (ys ++ (put h x ++ r)) (ys.length : Int) = (h, x, ((ys.length + (put h x).length : Nat) : Int), true) := by
 have g := get_sum ys r (sum4 (body h x)) hk h1 h2 hl (sum4_len _)
 rw [if_pos rfl] at g
 exact g
theorem put_get {xs : List Int} {a : Nat} {h : Hd} {x : List ByteArray} {p : Int} (hb : Byt xs) (hg : getC xs (a : Int) = (h, x, p, true)) :
  ∃ q : Nat, p = (q : Int) ∧ q = a + (put h x).length ∧ q ≤ xs.length ∧ okH h = true ∧ 1 ≤ x.length ∧ x.length ≤ 200 ∧ (body h x).length ≤ 1000000000 ∧ xs.drop a = put h x ++ xs.drop q := by
 unfold getC at hg
 split at hg
 ·
  rename_i hc
  obtain ⟨n, p', ok, hn⟩ : ∃ n p ok, Plain.getNum xs (a : Int) = (n, p, ok) := ⟨_, _, _, rfl⟩
  rw [hn] at hg hc
  simp only at hg hc
  obtain ⟨rfl, hc⟩ := hc
  obtain ⟨q', rfl, hn0, hn9, ha, hd⟩ := Can.getNum_canon hb hn
  obtain ⟨m, rfl⟩ : ∃ m : Nat, n = (m : Int) := ⟨n.toNat, by omega⟩
  simp only [Int.toNat_natCast] at hg
  split at hg
  ·
   rename_i h' x' hi
   split at hg
   ·
    rename_i h4
    simp only [Prod.mk.injEq, and_true] at hg
    obtain ⟨rfl, rfl, rfl⟩ := hg
    obtain ⟨hbd, hk, h1, h2, hs⟩ := body_inBody (fun y hy => hb y (List.mem_of_mem_drop (List.mem_of_mem_take hy))) hi
    have hbl : ((xs.drop q').take m).length = m := by rw [List.length_take, List.length_drop]; omega
    have hd2 : xs.drop a = put h' x' ++ xs.drop (q' + m + 4) := by
     rw [hd]
     unfold put
     rw [← hbd, hbl, ← h4, List.append_assoc, List.append_assoc]
     congr 1
     rw [← List.drop_drop (i := 4), List.take_append_drop, ← List.drop_drop, List.take_append_drop]
    have hl := congrArg List.length hd2
    simp only [List.length_append, List.length_drop] at hl
    refine ⟨q' + m + 4, by omega, by omega, by omega, hk, h1, h2, by rw [← hbd, hbl]; omega, hd2⟩
   ·
    simp [no12] at hg
  ·
   simp [no12] at hg
 ·
  simp [no12] at hg
theorem getC_no {xs : List Int} {a : Int} (h : (getC xs a).2.2.2 = false) : getC xs a = no12 a := by
 unfold getC at h ⊢
 split at h
 ·
  rename_i hc
  rw [if_pos hc]
  split at h
  ·
   rename_i h' x' hi
   split at h
   ·
    cases h
   ·
    rename_i h4
    rw [if_neg h4]
  ·
   rfl
 ·
  rename_i hc
  rw [if_neg hc]
end Go.Proofs.YtchonoonclllbaaGreatDoor.Sr
