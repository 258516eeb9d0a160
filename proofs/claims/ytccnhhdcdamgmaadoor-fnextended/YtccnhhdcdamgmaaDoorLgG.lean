/- Chapter 11, the specification's draw of a log, a table, a head and texts. -/
import Derived.Test.YtccnhhdcdamgmaaDoorLgF
import Derived.Deep.DeepCutAuto
import Derived.Deep.CutBlock
namespace Go.Proofs.YtccnhhdcdamgmaaDoor.Lg
open Go.RowKit Go.Proofs.YtccnhhdcdamgmaaDoor.Mem Go.Proofs.YtccnhhdcdamgmaaDoor.Laws Go.Proofs.YtccnhhdcdamgmaaDoor.Bytes Go.Proofs.YtccnhhdcdamgmaaDoor.Sha Go.Proofs.YtccnhhdcdamgmaaDoor.Tr Go.Proofs.YtccnhhdcdamgmaaDoor.Draw Go.Proofs.YtccnhhdcdamgmaaDoor.He
set_option linter.unusedVariables false
set_option linter.unusedSimpArgs false

/-- the sizes of what is drawn -/
def Bd (l : List ByteArray) (hd : Hd) (t : List Hd) (h : Hd) (x : List ByteArray) : Prop := l.length ≤ 10 ∧ (∀ s ∈ l, s.size ≤ 4) ∧ hd.r.size ≤ 32 ∧ t.length ≤ 12 ∧ (∀ q ∈ t, q.r.size ≤ 32) ∧ h.r.size ≤ 32 ∧ x.length ≤ 10 ∧ (∀ s ∈ x, s.size ≤ 4)

theorem res_rct {P : Program} {fn : Func} {p q u v : Tmp} {ty tz : TypeId} (h : fn.results = #[.cell p ty, .tmp u, .cell q tz, .tmp v]) (tmps : Array Value) (w : World) (g1 g2 : Nat) (t1 t2 : TypeId) (c1 c2 : Array Value) (fr : Nat × Nat) (d1 d2 : TypeDesc)
    (hp : tmps.getD p undef = .pointer (some ⟨g1, 0, none⟩)) (hq : tmps.getD q undef = .pointer (some ⟨g2, 0, none⟩)) (hg1 : w.heap[g1]? = some (.cells c1 t1 fr)) (hg2 : w.heap[g2]? = some (.cells c2 t2 fr))
    (hu1 : P.underlying ty = some d1) (hu2 : P.underlying tz = some d2) (hd1 : (match d1 with | .struct _ | .array _ _ => true | _ => false) = true) (hd2 : (match d2 with | .struct _ | .array _ _ => true | _ => false) = true) (hi1 : (P.info? ty).map (·.size) = some c1.size) (hi2 : (P.info? tz).map (·.size) = some c2.size) :
    (results fn tmps).run P w = .ok (.tuple #[.agg c1, tmps.getD u undef, .agg c2, tmps.getD v undef]) w := by
  have hp' : tmps[p]?.getD undef = .pointer (some ⟨g1, 0, none⟩) := by simpa using hp
  have hq' : tmps[q]?.getD undef = .pointer (some ⟨g2, 0, none⟩) := by simpa using hq
  simp [results, h, hp', hq', asAddr, run_loadVar_row w g1 t1 ty c1 fr d1 hg1 hu1 hd1 hi1, run_loadVar_row w g2 t2 tz c2 fr d2 hg2 hu2 hd2 hi2]

set_option maxRecDepth 1000000 in
set_option maxHeartbeats 8000000 in
theorem drawExtend_any (w : World) (vb : Value) (xs : List Int) (hs : Sl w vb (bs xs)) (hby : Byt xs) (hx : xs.length ≤ 140737488355328) :
    Calls Tryd.prog 10 #[vb] w fun e w' => ∃ (v9 : Value) (l : List ByteArray) (hd : Hd) (vt : Value) (t : List Hd) (h : Hd) (vx : Value) (x : List ByteArray), e = .returned (.tuple #[.agg #[v9, .int .i64 hd.n, .string hd.r], vt, .agg #[.int .i64 h.n, .string h.r], vx]) ∧ Bd l hd t h x ∧ Sl w' v9 (ss l) ∧ Sh w' vt t ∧ Sl w' vx (ss x) ∧ Below w.heap.size w w' := by
  obtain ⟨i0, hi, hz0, hz1, hz2⟩ := info_parts info9t
  obtain ⟨W, hW, R0, R1, bW, zW⟩ : ∃ W, Hid ((w.alloc (.cells #[.slice none 0 0, .int .i64 0, .string ⟨#[]⟩] 28)).alloc (.cells #[.int .i64 0, .string ⟨#[]⟩] 26) = W) ∧ Hid (W.heap[w.heap.size]? = some (.cells (lc (.slice none 0 0) hd0) 28 (0, 0))) ∧ Hid (W.heap[w.heap.size + 1]? = some (.cells (hc hd0) 26 (0, 0))) ∧ Hid (Below w.heap.size w W) ∧ w.heap.size + 1 < W.heap.size := ⟨_, rfl, heap_alloc2_old w _ _, heap_alloc2_new w _ _, ((Below.refl _ _).alloc (Nat.le_refl _) _).alloc (by simp) _, by simp⟩
  have HS : Hid (Sl W vb (bs xs)) := hs.later bW.out
  have q1 := new_any W vb xs HS.out hby hx
  rw [← hW.out] at q1
  obtain ⟨aob, capb, rfl, hcb⟩ := hs.form
  clear hs
  go_enter Tryd.func10, Tryd.ntmps10
  go_wp2_with fail
  refine q1.mono ?_
  rw [hW.out]
  rintro e w1 ⟨rfl, d1⟩
  obtain ⟨vb, hvb⟩ : ∃ vb, Value.slice aob (bs xs).length capb = vb := ⟨_, rfl⟩
  rw [hvb] at HS d1
  have z1 : W.heap.size < w1.heap.size := d1.cur.lt
  have R0' : Hid (w1.heap[w.heap.size]? = some (.cells (lc (.slice none 0 0) hd0) 28 (0, 0))) := drawn_row R0.out d1 (by omega)
  have R1' : Hid (w1.heap[w.heap.size + 1]? = some (.cells (hc hd0) 26 (0, 0))) := drawn_row R1.out d1 (by omega)
  have D1 : Hid (Drawn W W W.heap.size vb xs w1) := d1
  clear q1 R0 R1 hvb
  have q2 := list_any W w1 W.heap.size vb xs HS.out hby hx d1.below (Nat.le_refl _) d1.cur
  go_wp2_with fail
  refine q2.mono ?_
  rintro e w2 ⟨v2, l0, rfl, hl0, hz0', o2, d2⟩
  obtain ⟨ao2, L2, cap2, rfl, _, _⟩ := Mem.Own.form o2
  have z2 : w1.heap.size ≤ w2.heap.size := d2.apart.size
  -- all := append(l6List(c), "q")
  have o3 : ∀ o, Own (w2.alloc o) w1.heap.size (w2.alloc o).heap.size 9 (.slice ao2 L2 cap2) (ss l0) := fun o => Own.alloc o2 o
  have c2 : (ss l0).length + 1 ≤ maxLen := by rw [ss_len]; unfold maxLen; omega
  have c3 : ((ss l0).length + 1) * 16 ≤ 140737488355328 := by rw [ss_len]; omega
  have c4 : ∀ o, w1.heap.size ≤ (w2.alloc o).heap.size := fun o => by simp; omega
  have dd2 : Hid (Drawn W w1 W.heap.size vb xs w2) := d2
  have HZ0 : Hid (∀ s ∈ l0, s.size ≤ 3) := hz0'
  clear q2 d1 hz0' d2 o2
  go_wp2_with (at_builtin; go_must (refine wpl_app _ rfl (.tmp 17) (.tmp 18) 24 rfl 9 i0 (.string ⟨#[]⟩) 16 Tryd.underlying24 hi hz0 hz1 hz2 rfl w1.heap.size _ (ss l0) rfl (o3 _) _ rfl [.string ⟨#[113]⟩] (Sl.one _ _ _) (oneT _) c2 c3 (c4 _) ?_))
  intro v3 w3 o3' b3 _
  obtain ⟨all, hall⟩ : ∃ all, l0 ++ [(⟨#[113]⟩ : ByteArray)] = all := ⟨_, rfl⟩
  have HA : Hid (∀ s ∈ all, s.size ≤ 3) := by
    intro s hs
    rw [← hall] at hs
    rcases List.mem_append.1 hs with h | h
    · exact HZ0.out s h
    · simp at h
      subst h
      decide
  have hA1 : 1 ≤ all.length := by rw [← hall]; simp
  have hA9 : all.length ≤ 9 := by rw [← hall]; simp; omega
  have O3 : Own w3 w1.heap.size w3.heap.size 9 v3 (ss all) := by rw [← hall, ss_app]; exact o3'
  have z3 : w2.heap.size + 1 ≤ w3.heap.size := by have := b3.size; simp at this; omega
  have d3 : Drawn W w1 W.heap.size vb xs w3 := (dd2.out.on (Nat.le_refl _) z1 ((Below.refl _ _).alloc z2 (.cells #[.string ⟨#[113]⟩] 9))).on (Nat.le_refl _) z1 b3
  obtain ⟨b3a, off3, cap3, hv3, hc3⟩ := slForm O3.sl (by rw [ss_len]; omega)
  rw [ss_len] at hv3 hc3
  subst hv3
  have O3h : Hid (Own w3 w1.heap.size w3.heap.size 9 (.slice (some ⟨b3a, off3, none⟩) all.length cap3) (ss all)) := O3
  have dd3 : Hid (Drawn W w1 W.heap.size vb xs w3) := d3
  have q4 := below_any W w3 W.heap.size vb xs (all.length : Int) (by omega) (by omega) HS.out hby hx d3.below (Nat.le_refl _) d3.cur
  clear o3 c2 c3 c4 o3' b3 O3 d3 hall dd2 HZ0 hl0
  go_wp2_with fail
  refine q4.mono ?_
  rintro e w4 ⟨nn, rfl, hn0, hn1, d4⟩
  obtain ⟨n, rfl⟩ : ∃ n : Nat, nn = (n : Int) := ⟨nn.toNat, by omega⟩
  have hn : n < all.length := by omega
  have z4 : w3.heap.size ≤ w4.heap.size := d4.apart.size
  have dd4 : Hid (Drawn W w1 W.heap.size vb xs w4) := dd3.out.and d4
  have O4 : Hid (Own w4 w1.heap.size w3.heap.size 9 (.slice (some ⟨b3a, off3, none⟩) all.length cap3) (ss all)) := Own.drawn O3h.out d4 (.inl z1) (Nat.le_refl _)
  clear q4 d4 O3h dd3 hn0 hn1
  -- l := l11Log(append([]string{}, all[:n]...))
  have sl4 : Hid (∀ o, Sl (w4.alloc o) (.slice (some ⟨b3a, off3, none⟩) n cap3) (ss (all.take n))) := fun o => by
    rw [← ss_take]
    exact Sl.later (Sl.front O4.out.sl n (by rw [ss_len]; omega)) ((Below.refl _ _).alloc (Nat.le_refl _) o)
  have oE : Hid (Own (w4.alloc (.cells #[] 9)) w4.heap.size (w4.alloc (.cells #[] 9)).heap.size 9 (.slice (some ⟨w4.heap.size, 0, none⟩) 0 0) (ss [])) := emptyT w4 w4.heap.size (Nat.le_refl _)
  have c2 : (ss []).length + (ss (all.take n)).length ≤ maxLen := by rw [ss_len, ss_len, List.length_take]; unfold maxLen; simp only [List.length_nil]; omega
  have c3 : ((ss []).length + (ss (all.take n)).length) * 16 ≤ 140737488355328 := by rw [ss_len, ss_len, List.length_take]; simp only [List.length_nil]; omega
  have g1 : (n : Int) ≤ (cap3 : Int) := by omega
  have g2 : (0 : Int) ≤ (n : Int) := by omega
  go_wp2_with (at_builtin; go_must (refine wpl_app _ rfl (.tmp 24) (.tmp 27) 24 rfl 9 i0 (.string ⟨#[]⟩) 16 Tryd.underlying24 hi hz0 hz1 hz2 rfl w4.heap.size _ (ss []) rfl oE.out _ rfl (ss (all.take n)) (sl4.out _) (ss_one _) c2 c3 (by simp) ?_))
  intro v5 w5 o5 b5 _
  have O5 : Own w5 w4.heap.size w5.heap.size 9 v5 (ss (all.take n)) := o5
  have B45 : Below w4.heap.size w4 w5 := ((Below.refl _ _).alloc (Nat.le_refl _) _).trans b5
  have z5 : w4.heap.size ≤ w5.heap.size := B45.size
  have O45 : Hid (Own w5 w1.heap.size w3.heap.size 9 (.slice (some ⟨b3a, off3, none⟩) all.length cap3) (ss all)) := Own.later O4.out B45 z4
  have dd5 : Hid (Drawn W w1 W.heap.size vb xs w5) := dd4.out.on (Nat.le_refl _) z1 (B45.mono (by omega))
  have q6 := log_spec w5 v5 (all.take n) O5.sl (by rw [List.length_take]; omega) (fun s hs => by have := HA.out s (List.mem_of_mem_take hs); omega)
  have hMz := headOf_size (all.take n)
  obtain ⟨M, hM⟩ : ∃ M, headOf (all.take n) = M := ⟨_, rfl⟩
  rw [hM] at q6 hMz
  obtain ⟨ao5, L5, cap5, rfl, _, _⟩ := Mem.Own.form O5
  have O5h : Hid (Own w5 w4.heap.size w5.heap.size 9 (.slice ao5 L5 cap5) (ss (all.take n))) := O5
  clear sl4 oE c2 c3 o5 b5 O5 O4 B45 dd4 hM
  go_wp2_with fail
  refine q6.mono ?_
  rintro e w6 ⟨rfl, b6⟩
  have z6 : w5.heap.size ≤ w6.heap.size := b6.size
  obtain ⟨X, hX, XL, XB, zX⟩ : ∃ X, Hid (w6.alloc (.cells #[.slice ao5 L5 cap5, .int .i64 M.n, .string M.r] 28) = X) ∧ Hid (X.heap[w6.heap.size]? = some (.cells (lc (.slice ao5 L5 cap5) M) 28 (0, 0))) ∧ Below w5.heap.size w5 X ∧ w6.heap.size + 1 ≤ X.heap.size := ⟨_, rfl, heap_alloc_new _ _, b6.trans ((Below.refl _ _).alloc z6 _), by simp⟩
  have O6 : Own X w1.heap.size w3.heap.size 9 (.slice (some ⟨b3a, off3, none⟩) all.length cap3) (ss all) := Own.later O45.out XB (by omega)
  have OL6 : Hid (Own X w4.heap.size w5.heap.size 9 (.slice ao5 L5 cap5) (ss (all.take n))) := Own.later O5h.out XB (Nat.le_refl _)
  have dd6 : Drawn W w1 W.heap.size vb xs X := dd5.out.on (Nat.le_refl _) z1 (XB.mono (by omega))
  have q7 := table_any W X W.heap.size vb xs w1.heap.size w3.heap.size _ all (by omega) HA.out O6 z1 (by omega) HS.out hby hx dd6.below (Nat.le_refl _) dd6.cur
  rw [ss_len] at *
  have O6h : Hid (Own X w1.heap.size w3.heap.size 9 (.slice (some ⟨b3a, off3, none⟩) all.length cap3) (ss all)) := O6
  have dd6h : Hid (Drawn W w1 W.heap.size vb xs X) := dd6
  rw [← hX.out] at q7
  clear q6 b6 O45 O5h dd5 O6 dd6
  go_wp2_with fail
  refine q7.mono ?_
  rw [hX.out]
  rintro e w7 ⟨vt, t, rfl, ht1, htl, htz, ot, d7⟩
  obtain ⟨aot, capt, rfl⟩ := On.slice ot
  have z7 : X.heap.size ≤ w7.heap.size := d7.apart.size
  have OA7 : Hid (Own w7 w1.heap.size w3.heap.size 9 (.slice (some ⟨b3a, off3, none⟩) all.length cap3) (ss all)) := Own.drawn O6h.out d7 (.inl z1) (by omega)
  have OL7 : Hid (Own w7 w4.heap.size w5.heap.size 9 (.slice ao5 L5 cap5) (ss (all.take n))) := Own.drawn OL6.out d7 (.inl (by omega)) (by omega)
  have RL7 : Hid (w7.heap[w6.heap.size]? = some (.cells (lc (.slice ao5 L5 cap5) M) 28 (0, 0))) := drawn_row XL.out d7 (by omega)
  have OT7 : Hid (Oh w7 X.heap.size w7.heap.size (.slice aot t.length capt) t) := ot
  have dd7 : Hid (Drawn W w1 W.heap.size vb xs w7) := dd6h.out.and d7
  have HTZ : Hid (∀ q ∈ t, q.r.size ≤ 32) := htz
  have q8 := below_any W w7 W.heap.size vb xs ((all.length : Int) - (n : Int)) (by omega) (by omega) HS.out hby hx dd7.out.below (Nat.le_refl _) dd7.out.cur
  clear q7 d7 ot htz O6h OL6 XL XB dd6h hX
  go_wp2_with fail
  refine q8.mono ?_
  rintro e w8 ⟨yy, rfl, hy0, hy1, d8⟩
  obtain ⟨k, rfl⟩ : ∃ k : Nat, yy = (k : Int) := ⟨yy.toNat, by omega⟩
  have hk : n + 1 + k ≤ all.length := by omega
  have z8 : w7.heap.size ≤ w8.heap.size := d8.apart.size
  have OA8 : Hid (Own w8 w1.heap.size w3.heap.size 9 (.slice (some ⟨b3a, off3, none⟩) all.length cap3) (ss all)) := Own.drawn OA7.out d8 (.inl z1) (by omega)
  have OL8 : Hid (Own w8 w4.heap.size w5.heap.size 9 (.slice ao5 L5 cap5) (ss (all.take n))) := Own.drawn OL7.out d8 (.inl (by omega)) (by omega)
  have RL8 : Hid (w8.heap[w6.heap.size]? = some (.cells (lc (.slice ao5 L5 cap5) M) 28 (0, 0))) := drawn_row RL7.out d8 (by omega)
  have OT8 : Hid (Oh w8 X.heap.size w7.heap.size (.slice aot t.length capt) t) := Oh.drawn OT7.out d8 (.inl (by omega)) (Nat.le_refl _)
  have dd8 : Hid (Drawn W w1 W.heap.size vb xs w8) := dd7.out.and d8
  have sl8 : Sl w8 (.slice (some ⟨b3a, off3, none⟩) (n + 1 + k) cap3) (ss (all.take (n + 1 + k))) := by
    rw [← ss_take]
    exact Sl.front OA8.out.sl (n + 1 + k) (by rw [ss_len]; omega)
  have q9 := headOf_spec w8 _ (all.take (n + 1 + k)) sl8 (by rw [List.length_take]; omega) (fun s hs => by have := HA.out s (List.mem_of_mem_take hs); omega)
  have hHz := headOf_size (all.take (n + 1 + k))
  obtain ⟨H, hH⟩ : ∃ H, headOf (all.take (n + 1 + k)) = H := ⟨_, rfl⟩
  rw [hH] at q9 hHz
  have e1 : ((n : Int) + 1 + (k : Int)).toNat = n + 1 + k := by omega
  have e2 : (n : Int) + 1 + (k : Int) ≤ (cap3 : Int) := by omega
  have e3 : (0 : Int) ≤ (n : Int) + 1 + (k : Int) := by omega
  clear q8 d8 OA7 OL7 RL7 OT7 dd7 sl8 hH hy0 hy1
  go_wp2_with fail
  refine q9.mono ?_
  rintro e w9 ⟨rfl, b9⟩
  have z9 : w8.heap.size ≤ w9.heap.size := b9.size
  obtain ⟨Y, hY, YH, YB, zY, zYe⟩ : ∃ Y, Hid (w9.alloc (.cells #[.int .i64 H.n, .string H.r] 26) = Y) ∧ Hid (Y.heap[w9.heap.size]? = some (.cells (hc H) 26 (0, 0))) ∧ Hid (Below w8.heap.size w8 Y) ∧ w9.heap.size + 1 ≤ Y.heap.size ∧ Hid (Y.heap.size = w9.heap.size + 1) := ⟨_, rfl, heap_alloc_new _ _, b9.trans ((Below.refl _ _).alloc z9 _), by simp, by show _ = _; simp⟩
  have OA9 : Hid (Own Y w1.heap.size w3.heap.size 9 (.slice (some ⟨b3a, off3, none⟩) all.length cap3) (ss all)) := Own.later OA8.out YB.out (by omega)
  have OL9 : Hid (Own Y w4.heap.size w5.heap.size 9 (.slice ao5 L5 cap5) (ss (all.take n))) := Own.later OL8.out YB.out (by omega)
  have RL9 : Hid (Y.heap[w6.heap.size]? = some (.cells (lc (.slice ao5 L5 cap5) M) 28 (0, 0))) := rowKeep RL8.out YB.out
  have OT9 : Hid (Oh Y X.heap.size w7.heap.size (.slice aot t.length capt) t) := Oh.later OT8.out YB.out z8
  have dd9 : Hid (Drawn W w1 W.heap.size vb xs Y) := dd8.out.on (Nat.le_refl _) z1 (YB.out.mono (by omega))
  clear q9 b9 OA8 OL8 RL8 OT8 dd8
  -- texts := append([]string{}, all[n:m]...)
  have g3 : (n : Int) ≤ (n : Int) + 1 + (k : Int) := by omega
  have g4 : ¬ cap3 = n := by omega
  obtain ⟨x, hxx⟩ : ∃ x, (all.drop n).take (n + 1 + k - n) = x := ⟨_, rfl⟩
  have hxl : x.length ≤ 9 := by rw [← hxx, List.length_take, List.length_drop]; omega
  have hx1 : 1 ≤ x.length := by rw [← hxx, List.length_take, List.length_drop]; omega
  have HXZ : Hid (∀ s ∈ x, s.size ≤ 3) := fun s hs => HA.out s (by rw [← hxx] at hs; exact List.mem_of_mem_drop (List.mem_of_mem_take hs))
  have sl10 : Hid (∀ o, Sl (Y.alloc o) (.slice (some ⟨b3a, off3 + n, none⟩) (n + 1 + k - n) (cap3 - n)) (ss x)) := fun o => by
    have h1 := slBack OA9.out.sl n (by rw [ss_len]; omega)
    have h2 := Sl.front h1 (n + 1 + k - n) (by rw [ss_drop, ss_len, List.length_drop]; omega)
    rw [ss_drop, ss_take, hxx] at h2
    exact h2.later ((Below.refl _ _).alloc (Nat.le_refl _) o)
  have oE : Hid (Own (Y.alloc (.cells #[] 9)) Y.heap.size (Y.alloc (.cells #[] 9)).heap.size 9 (.slice (some ⟨w9.heap.size + 1, 0, none⟩) 0 0) (ss [])) := by
    show Own _ _ _ _ _ _
    have h := emptyT Y Y.heap.size (Nat.le_refl _)
    rw [zYe.out] at h ⊢
    exact h
  have c2 : (ss []).length + (ss x).length ≤ maxLen := by rw [ss_len, ss_len]; unfold maxLen; simp only [List.length_nil]; omega
  have c3 : ((ss []).length + (ss x).length) * 16 ≤ 140737488355328 := by rw [ss_len, ss_len]; simp only [List.length_nil]; omega
  clear hxx
  go_wp2_with (at_builtin; rw [hY.out]; go_must (refine wpl_app _ rfl (.tmp 46) (.tmp 50) 24 rfl 9 i0 (.string ⟨#[]⟩) 16 Tryd.underlying24 hi hz0 hz1 hz2 rfl Y.heap.size _ (ss []) rfl oE.out _ rfl (ss x) (sl10.out _) (ss_one _) c2 c3 (by simp) ?_))
  intro v12 w12 o12 b12 _
  have O12 : Own w12 Y.heap.size w12.heap.size 9 v12 (ss x) := o12
  have B12 : Below Y.heap.size Y w12 := ((Below.refl _ _).alloc (Nat.le_refl _) _).trans b12
  have z12 : Y.heap.size ≤ w12.heap.size := B12.size
  have dd12 : Drawn W w1 W.heap.size vb xs w12 := dd9.out.on (Nat.le_refl _) z1 (B12.mono (by omega))
  have OL12 := Own.later OL9.out B12 (by omega)
  have OT12 := Oh.later OT9.out B12 (by omega)
  obtain ⟨b12a, off12, cap12, hv12, hc12⟩ := slForm O12.sl (by rw [ss_len]; omega)
  rw [ss_len] at hv12 hc12
  subst hv12
  have DX : Hid (Dx W vb xs w.heap.size w6.heap.size w9.heap.size (.slice ao5 L5 cap5) (all.take n) M (.slice aot t.length capt) t H (.slice (some ⟨b12a, off12, none⟩) x.length cap12) x w12) := by
    refine ⟨D1.out.and dd12, by omega, by omega, by omega, by omega, drawn_row R0'.out dd12 (by omega), drawn_row R1'.out dd12 (by omega), rowKeep RL9.out B12, rowKeep YH.out B12, OL12.mono (by omega) (by omega), On.mono OT12 (by omega) (by omega), O12.mono (by omega) (Nat.le_refl _), fun hv => ?_, ht1, fun q hq hv => ?_⟩
    · have := OT12.2 _ hv
      omega
    · have h1 := OL12.2 _ hv
      rcases Nat.lt_or_ge q Y.heap.size with h2 | h2
      · exact lowN (n := 1) O12 h2 hq
      · omega
  have HBD : Hid (Bd (all.take n) M t H x) := ⟨by rw [List.length_take]; omega, fun s hs => by have := HA.out s (List.mem_of_mem_take hs); omega, hMz, by omega, HTZ.out, hHz, by omega, fun s hs => by have := HXZ.out s hs; omega⟩
  have q13 := below_any W w12 W.heap.size vb xs 8 (by omega) (by omega) HS.out hby hx dd12.below (Nat.le_refl _) dd12.cur
  have hoff : off12 = 0 := by
    rcases O12.1.2 with ⟨h', _⟩ | ⟨g', cap', cur, h', _⟩
    · simp at h'
    · simp at h'
      exact h'.1.2
  subst hoff
  obtain ⟨lA, hlA⟩ : ∃ lA, all.take n = lA := ⟨_, rfl⟩
  rw [hlA] at DX HBD
  have htl10 : t.length ≤ 10 := by omega
  clear OL12 OT12 O12 o12 b12 B12 dd12 OA9 OL9 RL9 OT9 dd9 YH YB zYe oE sl10 c2 c3 HXZ HTZ hlA hY R0' R1' D1 HA e1 e2 e3 g1 g2 g3 g4 hMz hHz ht1 htl hn hk hA1 hA9 hcb hc3 hc12
  go_wp2_with fail
  refine q13.mono ?_
  rintro e w13 ⟨cc, rfl, hc0, hc8, d13⟩
  have DX13 : Hid (Dx W vb xs w.heap.size w6.heap.size w9.heap.size (.slice ao5 L5 cap5) lA M (.slice aot t.length capt) t H (.slice (some ⟨b12a, 0, none⟩) x.length cap12) x w13) := DX.out.draw d13
  clear q13 d13 DX
  have hgl : w6.heap.size < w13.heap.size := (Array.getElem?_eq_some_iff.1 DX13.out.rl).1
  have hgh : w9.heap.size < w13.heap.size := (Array.getElem?_eq_some_iff.1 DX13.out.rh).1
  have zw13 : w1.heap.size ≤ w13.heap.size := by omega
  go_upto_block 0 with fail
  go_cut [10, 13] (fun s10 s13 wx => ∃ (v9 : Value) (l : List ByteArray) (hd : Hd) (vt : Value) (t : List Hd) (h : Hd) (vx : Value) (x : List ByteArray), s10 = vt ∧ s13 = vx ∧ Bd l hd t h x ∧ t.length ≤ 11 ∧ Dx W vb xs w.heap.size w6.heap.size w9.heap.size v9 l hd vt t h vx x wx)
  case first =>
    obtain ⟨i1, hi1, hy0, hy1, hy2⟩ := info_parts infoH
    have hxA : 1 ≤ x.length := hx1
    have zW13 : W.heap.size ≤ w13.heap.size := DX13.out.drawn.apart.size
    have hlow := DX13.out.low
    have hBD := HBD.out
    obtain ⟨a1, a2, a3, a4, a5, a6, a7, a8⟩ := hBD
    have A2 : Hid (∀ s ∈ lA, s.size ≤ 4) := a2
    have A5 : Hid (∀ q ∈ t, q.r.size ≤ 32) := a5
    have A8 : Hid (∀ s ∈ x, s.size ≤ 4) := a8
    have A8b : Hid (∀ k, ∀ s ∈ x.set k (⟨#[98, 101, 110, 116]⟩ : ByteArray), s.size ≤ 4) := fun k s hs => by
      rcases List.mem_or_eq_of_mem_set hs with h | h
      · exact a8 s h
      · rw [h]; decide
    clear a2 a5 a8 HBD
    have ub : ∀ j, j < x.length → (∃ u, w13.cell? ⟨b12a, j, none⟩ = some u) ∧ w13.frozen? ⟨b12a, j, none⟩ = false := fun j hj => by
      rcases DX13.out.ox.1.2 with ⟨h', _⟩ | ⟨g', cap', cur, h', hb, hg, hn, hc, hcs, _⟩
      · simp at h'
      · simp only [Value.slice.injEq, Option.some.injEq, Addr.mk.injEq, and_true, true_and] at h'
        obtain ⟨rfl, _, rfl⟩ := h'
        refine ⟨⟨cur[j]'(by rw [ss_len] at hn; omega), ?_⟩, frozen_of_row _ _ _ _ _ hg⟩
        rw [cell_of_row _ _ _ _ _ _ hg]
        simp
    by_cases e0 : cc = 0
    · subst e0
      have q := any11 W w13 W.heap.size vb xs HS.out hby hx DX13.out.drawn.below (Nat.le_refl _) DX13.out.drawn.cur
      go_wp2_with fail
      refine q.mono ?_
      rintro e w16 ⟨v', l', h', rfl, b1, b2, b3, o', d'⟩
      obtain ⟨ao', L', cap', rfl, _, _⟩ := Mem.Own.form o'
      have D16 := DX13.out.draw d'
      have nx : ∀ k, (Value.slice (some ⟨b12a, 0, none⟩) x.length cap12).ownBlock = some k → (Value.slice ao' L' cap').ownBlock ≠ some k := fun k hk hv => by
        have h1 := DX13.out.ox.2 _ hk
        exact lowN (n := 1) o' h1 hv
      have rl := D16.rl
      have DZ : Hid (Dx W vb xs w.heap.size w6.heap.size w9.heap.size (.slice ao' L' cap') l' h' (.slice aot t.length capt) t H (.slice (some ⟨b12a, 0, none⟩) x.length cap12) x (w16.setRow w6.heap.size (lc (.slice ao' L' cap') h'))) := D16.setL (o'.mono zW13 (Nat.le_refl _)) nx
      have HL : Hid (∀ s ∈ l', s.size ≤ 4) := fun s hs => by have := b2 s hs; omega
      clear q d' o' D16 nx b2 ub
      go_wp2_with (refine wpList_store_row rfl 28 _ _ rfl w6.heap.size (lc (.slice ao' L' cap') h') rfl rfl 28 _ rl (sizeL _ _) rfl (oneL _ rfl) ?_)
      go_meet
      exact ⟨_, l', h', _, t, H, _, x, rfl, rfl, ⟨by omega, HL.out, b3, by omega, A5.out, a6, a7, A8.out⟩, by omega, DZ.out⟩
    have n0 : (cc == 0) = false := by simp [e0]
    by_cases e1 : cc = 1
    · subst e1
      obtain ⟨⟨u, hu⟩, hf⟩ := ub 0 (by omega)
      have DZ : Hid (Dx W vb xs w.heap.size w6.heap.size w9.heap.size (.slice ao5 L5 cap5) lA M (.slice aot t.length capt) t H (.slice (some ⟨b12a, 0, none⟩) x.length cap12) (x.set 0 ⟨#[98, 101, 110, 116]⟩) (w13.setCell ⟨b12a, 0, none⟩ (.string ⟨#[98, 101, 110, 116]⟩))) := DX13.out.bent 0 _
      have g0 : (0 : Int) < (x.length : Int) := by omega
      clear ub
      go_wp2
      go_meet
      exact ⟨_, lA, M, _, t, H, _, _, rfl, rfl, ⟨a1, A2.out, a3, by omega, A5.out, a6, by rw [List.length_set]; omega, A8b.out 0⟩, by omega, DZ.out⟩
    have n1 : (cc == 1) = false := by simp [e1]
    by_cases e2 : cc = 2
    · subst e2
      have q := any10 W w13 W.heap.size vb xs HS.out hby hx DX13.out.drawn.below (Nat.le_refl _) DX13.out.drawn.cur
      go_wp2_with fail
      refine q.mono ?_
      rintro e w16 ⟨v', t', rfl, b1, b2, b3, o', d'⟩
      obtain ⟨q0, hq0⟩ : ∃ q0, t'[0]? = some q0 := ⟨t'[0], by simp⟩
      obtain ⟨bb, oo, cp, rfl, _, m0, m1⟩ := Sh.at o'.sh hq0
      have hqz := b3 q0 (List.mem_of_getElem? hq0)
      have D16 := DX13.out.draw d'
      have rh := D16.rh
      have DZ : Hid (Dx W vb xs w.heap.size w6.heap.size w9.heap.size (.slice ao5 L5 cap5) lA M (.slice aot t.length capt) t q0 (.slice (some ⟨b12a, 0, none⟩) x.length cap12) x (w16.setRow w9.heap.size (hc q0))) := D16.setH
      have g0 : (0 : Int) < (t'.length : Int) := by omega
      simp only [Nat.zero_mul, Nat.add_zero] at m0 m1
      clear q d' o' D16 b3 ub hq0
      go_wp2_with (refine wpList_store_row rfl 26 _ _ rfl w9.heap.size (hc q0) rfl rfl 26 _ rh (sizeH _) rfl (oneH _) ?_)
      go_meet
      exact ⟨_, lA, M, _, t, q0, _, x, rfl, rfl, ⟨a1, A2.out, a3, by omega, A5.out, hqz, a7, A8.out⟩, by omega, DZ.out⟩
    have n2 : (cc == 2) = false := by simp [e2]
    by_cases e3 : cc = 3
    · subst e3
      have DA := DX13.out.alloc (.cells #[] 9)
      have oE := emptyT w13 W.heap.size zW13
      have DB : Dx W vb xs w.heap.size w6.heap.size w9.heap.size (.slice ao5 L5 cap5) lA M (.slice aot t.length capt) t H (.slice (some ⟨w13.heap.size, 0, none⟩) 0 0) [] (w13.alloc (.cells #[] 9)) := DA.setX oE (fun k hk hv => by
        have h1 := DX13.out.ol.2 _ hv
        simp [Value.ownBlock] at hk
        omega)
      have rh := DA.rh
      have c1 : (w13.alloc (.cells #[] 9)).cell? ⟨w6.heap.size, 1, none⟩ = some (.int .i64 M.n) := row_at DA.rl 1
      have c2 : (w13.alloc (.cells #[] 9)).cell? ⟨w6.heap.size, 2, none⟩ = some (.string M.r) := row_at DA.rl 2
      have DZ : Hid (Dx W vb xs w.heap.size w6.heap.size w9.heap.size (.slice ao5 L5 cap5) lA M (.slice aot t.length capt) t M (.slice (some ⟨w13.heap.size, 0, none⟩) 0 0) [] ((w13.alloc (.cells #[] 9)).setRow w9.heap.size (hc M))) := DB.setH
      clear DA oE DB ub
      go_wp2_with (refine wpList_store_row rfl 26 _ _ rfl w9.heap.size (hc M) rfl rfl 26 _ rh (sizeH _) rfl (oneH _) ?_)
      go_meet
      exact ⟨_, lA, M, _, t, M, _, [], rfl, rfl, ⟨a1, A2.out, a3, by omega, A5.out, a3, by simp, by simp⟩, by omega, DZ.out⟩
    have n3 : (cc == 3) = false := by simp [e3]
    by_cases e4 : cc = 4
    · subst e4
      have q := any10 W w13 W.heap.size vb xs HS.out hby hx DX13.out.drawn.below (Nat.le_refl _) DX13.out.drawn.cur
      go_wp2_with fail
      refine q.mono ?_
      rintro e w16 ⟨v', t', rfl, b1, b2, b3, o', d'⟩
      have DZ : Hid (Dx W vb xs w.heap.size w6.heap.size w9.heap.size (.slice ao5 L5 cap5) lA M v' t' H (.slice (some ⟨b12a, 0, none⟩) x.length cap12) x w16) := (DX13.out.draw d').setT (On.mono o' zW13 (Nat.le_refl _)) (lowN o' hgh) b1
      have HT : Hid (∀ q ∈ t', q.r.size ≤ 32) := b3
      clear q d' o' b3 ub
      go_wp2
      go_meet
      exact ⟨_, lA, M, _, t', H, _, x, rfl, rfl, ⟨a1, A2.out, a3, by omega, HT.out, a6, a7, A8.out⟩, by omega, DZ.out⟩
    have n4 : (cc == 4) = false := by simp [e4]
    by_cases e5 : cc = 5
    · subst e5
      have O15 : ∀ o, On 2 (w13.alloc o) W.heap.size (w13.alloc o).heap.size 26 (.slice aot t.length capt) t.length (hds t) := fun o => (DX13.out.alloc o).ot
      have j0 : w13.cell? ⟨w9.heap.size, 0, none⟩ = some (.int .i64 H.n) := row_at DX13.out.rh 0
      have j1 : w13.cell? ⟨w9.heap.size, 1, none⟩ = some (.string H.r) := row_at DX13.out.rh 1
      have k1 : t.length + 1 ≤ maxLen := by unfold maxLen; omega
      have k2 : (t.length + 1) * 24 ≤ 140737488355328 := by omega
      have k3 : ∀ o, W.heap.size ≤ (w13.alloc o).heap.size := fun o => by simp; omega
      go_wp2_with (at_builtin; go_must (refine wpl_appn 2 (by omega) _ rfl (.tmp 79) (.tmp 81) 29 rfl 26 i1 (.agg #[.int .i64 0, .string ⟨#[]⟩]) 24 Tryd.underlying29 hi1 hy0 hy1 hy2 rfl W.heap.size _ t.length (hds t) rfl (O15 _) _ rfl 1 H.cs (Sh.one _ H) (cs_one H) k1 k2 (k3 _) ?_))
      intro v15 w15 o15 b15 g15
      have D15 := (DX13.out.alloc _).app o15 b15 g15
      have HT : Hid (∀ q ∈ t ++ [H], q.r.size ≤ 32) := sz_snoc A5.out a6
      obtain ⟨J, hJ⟩ : ∃ J : Nat, x.length = J + 1 := ⟨x.length - 1, by omega⟩
      have ub' : (∃ u, w15.cell? ⟨b12a, J, none⟩ = some u) ∧ w15.frozen? ⟨b12a, J, none⟩ = false := by
        rcases D15.ox.1.2 with ⟨h', _⟩ | ⟨g', cap', cur, h', hb, hg, hn, hc, hcs, _⟩
        · simp at h'
        · simp only [Value.slice.injEq, Option.some.injEq, Addr.mk.injEq, and_true, true_and] at h'
          obtain ⟨rfl, _, rfl⟩ := h'
          refine ⟨⟨cur[J]'(by rw [ss_len] at hn; omega), ?_⟩, frozen_of_row _ _ _ _ _ hg⟩
          rw [cell_of_row _ _ _ _ _ _ hg]
          simp
      obtain ⟨⟨u, hu⟩, hf⟩ := ub'
      have DZ : Hid (Dx W vb xs w.heap.size w6.heap.size w9.heap.size (.slice ao5 L5 cap5) lA M v15 (t ++ [H]) H (.slice (some ⟨b12a, 0, none⟩) x.length cap12) (x.set J ⟨#[98, 101, 110, 116]⟩) (w15.setCell ⟨b12a, J, none⟩ (.string ⟨#[98, 101, 110, 116]⟩))) := D15.bent J _
      have g1 : IntKind.i64.wrap ((x.length : Int) - 1) = (J : Int) := by rw [IntKind.wrap_i64]; omega
      have g2 : (x.length : Int) - 1 < (x.length : Int) := by omega
      have g3 : (0 : Int) ≤ (x.length : Int) - 1 := by omega
      have g4 : ((x.length : Int) - 1).toNat = J := by omega
      have HJ : Hid (x.length = J + 1) := hJ
      clear O15 j0 j1 k1 k2 k3 o15 b15 g15 ub D15 hJ
      go_wp2
      go_meet
      exact ⟨_, lA, M, _, t ++ [H], H, _, _, rfl, rfl, ⟨a1, A2.out, a3, by rw [List.length_append, List.length_singleton]; omega, HT.out, a6, by rw [List.length_set]; omega, A8b.out J⟩, by rw [List.length_append, List.length_singleton]; omega, DZ.out⟩
    have n5 : (cc == 5) = false := by simp [e5]
    clear ub
    go_wp2
    go_meet
    exact ⟨_, lA, M, _, t, H, _, x, rfl, rfl, ⟨a1, A2.out, a3, by omega, A5.out, a6, a7, A8.out⟩, by omega, DX13.out⟩
  case rest =>
    obtain ⟨v9, l, hd, vt, t', h, vx, x', rfl, rfl, hBd, ht11, DXc⟩ := hcut
    have HBd : Hid (Bd l hd t' h x') := hBd
    have DXh : Hid (Dx W vb xs w.heap.size w6.heap.size w9.heap.size v9 l hd u10 t' h u13 x' wc) := DXc
    have q14 := once10 W wc W.heap.size vb xs 3 (by omega) (by omega) HS.out hby hx DXc.drawn.below (Nat.le_refl _) DXc.drawn.cur
    clear hBd DXc
    go_wp2_with fail
    refine q14.mono ?_
    rintro e w14 ⟨bo, rfl, d14⟩
    have DX14 : Hid (Dx W vb xs w.heap.size w6.heap.size w9.heap.size v9 l hd u10 t' h u13 x' w14) := DXh.out.draw d14
    clear q14 d14 DXh
    cases bo
    · obtain ⟨i1, hi1, hy0, hy1, hy2⟩ := info_parts infoH
      have O15 : ∀ o, On 2 (w14.alloc o) W.heap.size (w14.alloc o).heap.size 26 u10 t'.length (hds t') := fun o => (DX14.out.alloc o).ot
      have j0 : w14.cell? ⟨w9.heap.size, 0, none⟩ = some (.int .i64 h.n) := row_at DX14.out.rh 0
      have j1 : w14.cell? ⟨w9.heap.size, 1, none⟩ = some (.string h.r) := row_at DX14.out.rh 1
      have k1 : t'.length + 1 ≤ maxLen := by unfold maxLen; omega
      have k2 : (t'.length + 1) * 24 ≤ 140737488355328 := by omega
      have k3 : ∀ o, W.heap.size ≤ (w14.alloc o).heap.size := fun o => by have := DX14.out.drawn.apart.size; simp; omega
      go_wp2_with (at_builtin; go_must (refine wpl_appn 2 (by omega) _ rfl (.tmp 91) (.tmp 93) 29 rfl 26 i1 (.agg #[.int .i64 0, .string ⟨#[]⟩]) 24 Tryd.underlying29 hi1 hy0 hy1 hy2 rfl W.heap.size _ t'.length (hds t') rfl (O15 _) _ rfl 1 h.cs (Sh.one _ h) (cs_one h) k1 k2 (k3 _) ?_))
      intro v15 w15 o15 b15 g15
      have DX15 : Hid (Dx W vb xs w.heap.size w6.heap.size w9.heap.size v9 l hd v15 (t' ++ [h]) h u13 x' w15) := (DX14.out.alloc _).app o15 b15 g15
      have HB15 : Hid (Bd l hd (t' ++ [h]) h x') := by
        obtain ⟨a1, a2, a3, a4, a5, a6, a7, a8⟩ := HBd.out
        exact ⟨a1, a2, a3, by rw [List.length_append, List.length_singleton]; omega, sz_snoc a5 a6, a6, a7, a8⟩
      clear O15 j0 j1 k1 k2 k3 o15 b15 g15 DX14 HBd
      have k0 : w15.cell? ⟨w6.heap.size, 0, none⟩ = some v9 := row_at DX15.out.rl 0
      have k1 : w15.cell? ⟨w6.heap.size, 1, none⟩ = some (.int .i64 hd.n) := row_at DX15.out.rl 1
      have k2 : w15.cell? ⟨w6.heap.size, 2, none⟩ = some (.string hd.r) := row_at DX15.out.rl 2
      have k3 : w15.cell? ⟨w9.heap.size, 0, none⟩ = some (.int .i64 h.n) := row_at DX15.out.rh 0
      have k4 : w15.cell? ⟨w9.heap.size, 1, none⟩ = some (.string h.r) := row_at DX15.out.rh 1
      have l1 := DX15.out.low
      have l2 := DX15.out.gl1
      have l3 := DX15.out.gh1
      have hv1 : v9.oneCell' = true := Own.one DX15.out.ol
      go_wp2_with fail
      refine wp_region_held_drew (S := fun w' => w'.cell? ⟨w6.heap.size, 0, none⟩ = some v9 ∧ w'.cell? ⟨w6.heap.size, 1, none⟩ = some (.int .i64 hd.n) ∧ w'.cell? ⟨w6.heap.size, 2, none⟩ = some (.string hd.r) ∧ w'.cell? ⟨w9.heap.size, 0, none⟩ = some (.int .i64 h.n) ∧ w'.cell? ⟨w9.heap.size, 1, none⟩ = some (.string h.r)) (by kernel_rfl) ⟨k0, k1, k2, k3, k4⟩ (fun hHeld => ?_)
      (refine wpAnyH_take (i := 0) (v := ?v0x1) rfl (by kernel_rfl) (by kernel_rfl) (by kernel_rfl) (fun _ _ _ h => h) (Or.inl ⟨by rfl, ?hy0x1⟩) (by assumption) ?rest0x1; case hy0x1 => (intro w hSw; (try dsimp only at hSw); go_split_ands; go_simp; (try with_reducible rfl)))
      try simp only [Act.put, List.setIfInBounds_toArray, List.set_cons_zero, List.set_cons_succ, List.getElem_toArray, List.getElem_cons_zero, List.getElem_cons_succ]
      (refine wpAnyH_take (i := 1) (v := ?v1x2) rfl (by kernel_rfl) (by kernel_rfl) (by kernel_rfl) (fun _ _ _ h => h) (Or.inl ⟨by rfl, ?hy1x2⟩) (by assumption) ?rest1x2; case hy1x2 => (intro w hSw; (try dsimp only at hSw); go_split_ands; go_simp; (try with_reducible rfl)))
      try simp only [Act.put, List.setIfInBounds_toArray, List.set_cons_zero, List.set_cons_succ, List.getElem_toArray, List.getElem_cons_zero, List.getElem_cons_succ]
      (refine wpAnyH_take (i := 2) (v := ?v2x3) rfl (by kernel_rfl) (by kernel_rfl) (by kernel_rfl) (fun _ _ _ h => h) (Or.inl ⟨by rfl, ?hy2x3⟩) (by assumption) ?rest2x3; case hy2x3 => (intro w hSw; (try dsimp only at hSw); go_split_ands; go_simp; (try with_reducible rfl)))
      try simp only [Act.put, List.setIfInBounds_toArray, List.set_cons_zero, List.set_cons_succ, List.getElem_toArray, List.getElem_cons_zero, List.getElem_cons_succ]
      (refine wpAnyH_take (i := 3) (v := ?v3x4) rfl (by kernel_rfl) (by kernel_rfl) (by kernel_rfl) (fun _ _ _ h => h) (Or.inl ⟨by rfl, ?hy3x4⟩) (by assumption) ?rest3x4; case hy3x4 => (intro w hSw; (try dsimp only at hSw); go_split_ands; go_simp; (try with_reducible rfl)))
      try simp only [Act.put, List.setIfInBounds_toArray, List.set_cons_zero, List.set_cons_succ, List.getElem_toArray, List.getElem_cons_zero, List.getElem_cons_succ]
      have J0 : w15.drew.heap[w.heap.size]? = some (.cells (lc (.slice none 0 0) hd0) 28 (0, 0)) := DX15.out.r0
      refine wpAnyH_ready (rs := [4]) (by kernel_rfl) (by simp) ?_
      refine AllReadyH.cons rfl (fun K hK => ?_) AllReadyH.nil
      rw [if_pos (by rfl)]
      refine wp_store_row 28 _ _ rfl w.heap.size (lc v9 hd) rfl rfl 28 _ J0 (sizeL _ _) rfl (oneL _ hv1) ?_
      refine hK.out _ _ (by obtain ⟨s0, s1, s2, s3, s4⟩ := hHeld; exact ⟨cell_row (by show w6.heap.size ≠ w.heap.size; omega) s0, cell_row (by show w6.heap.size ≠ w.heap.size; omega) s1, cell_row (by show w6.heap.size ≠ w.heap.size; omega) s2, cell_row (by show w9.heap.size ≠ w.heap.size; omega) s3, cell_row (by show w9.heap.size ≠ w.heap.size; omega) s4⟩) (fun hHeld => ?_)
      clear hK K
      try simp only [Act.put, List.setIfInBounds_toArray, List.set_cons_zero, List.set_cons_succ, List.getElem_toArray, List.getElem_cons_zero, List.getElem_cons_succ]
      (refine wpAnyH_take (i := 5) (v := ?v5x5) rfl (by kernel_rfl) (by kernel_rfl) (by kernel_rfl) (fun _ _ _ h => h) (Or.inl ⟨by rfl, ?hy5x5⟩) (by assumption) ?rest5x5; case hy5x5 => (intro w hSw; (try dsimp only at hSw); go_split_ands; go_simp; (try with_reducible rfl)))
      try simp only [Act.put, List.setIfInBounds_toArray, List.set_cons_zero, List.set_cons_succ, List.getElem_toArray, List.getElem_cons_zero, List.getElem_cons_succ]
      have J1 : (w15.drew.setRow w.heap.size (lc v9 hd)).heap[w.heap.size + 1]? = some (.cells (hc hd0) 26 (0, 0)) := (setRow_other _ _ _ _ (by omega)).trans DX15.out.r1
      refine wpAnyH_ready (rs := [6]) (by kernel_rfl) (by simp) ?_
      refine AllReadyH.cons rfl (fun K hK => ?_) AllReadyH.nil
      rw [if_pos (by rfl)]
      refine wp_store_row 26 _ _ rfl (w.heap.size + 1) (hc h) rfl rfl 26 _ J1 (sizeH _) rfl (oneH _) ?_
      refine hK.out _ _ (by obtain ⟨s0, s1, s2, s3, s4⟩ := hHeld; exact ⟨cell_row (by show w6.heap.size ≠ w.heap.size + 1; omega) s0, cell_row (by show w6.heap.size ≠ w.heap.size + 1; omega) s1, cell_row (by show w6.heap.size ≠ w.heap.size + 1; omega) s2, cell_row (by show w9.heap.size ≠ w.heap.size + 1; omega) s3, cell_row (by show w9.heap.size ≠ w.heap.size + 1; omega) s4⟩) (fun hHeld => ?_)
      clear hK K
      try simp only [Act.put, List.setIfInBounds_toArray, List.set_cons_zero, List.set_cons_succ, List.getElem_toArray, List.getElem_cons_zero, List.getElem_cons_succ]
      (refine wpAnyH_take (i := 7) (v := ?v7x6) rfl (by kernel_rfl) (by kernel_rfl) (by kernel_rfl) (fun _ _ _ h => h) (Or.inl ⟨by rfl, ?hy7x6⟩) (by assumption) ?rest7x6; case hy7x6 => (intro w hSw; (try dsimp only at hSw); go_split_ands; go_simp; (try with_reducible rfl)))
      try simp only [Act.put, List.setIfInBounds_toArray, List.set_cons_zero, List.set_cons_succ, List.getElem_toArray, List.getElem_cons_zero, List.getElem_cons_succ]
      refine wpAnyH_done (by kernel_rfl) ?_ _
      clear hHeld k0 k1 k2 k3 k4
      have F0 : ((w15.drew.setRow w.heap.size (lc v9 hd)).setRow (w.heap.size + 1) (hc h)).heap[w.heap.size]? = some (.cells (lc v9 hd) 28 (0, 0)) := (setRow_other _ _ _ _ (by omega)).trans (setRow_heap _ _ _ _ _ _ J0)
      have F1 : ((w15.drew.setRow w.heap.size (lc v9 hd)).setRow (w.heap.size + 1) (hc h)).heap[w.heap.size + 1]? = some (.cells (hc h) 26 (0, 0)) := setRow_heap _ _ _ _ _ _ J1
      have FB : Below w.heap.size w ((w15.drew.setRow w.heap.size (lc v9 hd)).setRow (w.heap.size + 1) (hc h)) := below_setRow (below_setRow (Below.drew (bW.out.trans (DX15.out.drawn.below.mono (by omega)))) (Nat.le_refl _) _) (by omega) _
      have FL := (Own.setRow (Own.setRow (w := w15.drew) DX15.out.ol (lc v9 hd) (g := w.heap.size) (.inl (by omega))) (hc h) (g := w.heap.size + 1) (.inl (by omega))).sl
      have FX := (Own.setRow (Own.setRow (w := w15.drew) DX15.out.ox (lc v9 hd) (g := w.heap.size) (.inl (by omega))) (hc h) (g := w.heap.size + 1) (.inl (by omega))).sl
      have FT := Oh.sh (On.keep (On.keep (w := w15.drew) (w' := w15.drew.setRow w.heap.size (lc v9 hd)) DX15.out.ot (fun k hk _ => setRow_other _ _ _ _ (by omega))) (w' := (w15.drew.setRow w.heap.size (lc v9 hd)).setRow (w.heap.size + 1) (hc h)) (fun k hk _ => setRow_other _ _ _ _ (by omega)))
      go_wp2
      exact bodyPost_ret (res_rct rfl _ _ w.heap.size (w.heap.size + 1) 28 26 (lc v9 hd) (hc h) (0, 0) _ _ rfl rfl F0 F1 Tryd.underlying28 Tryd.underlying26 rfl rfl (sizeL _ _) (sizeH _)) rfl ⟨v9, l, hd, v15, t' ++ [h], h, u13, x', rfl, HB15.out, FL, FT, FX, FB⟩
    · have HB14 : Hid (Bd l hd t' h x') := HBd.out
      have k0 : w14.cell? ⟨w6.heap.size, 0, none⟩ = some v9 := row_at DX14.out.rl 0
      have k1 : w14.cell? ⟨w6.heap.size, 1, none⟩ = some (.int .i64 hd.n) := row_at DX14.out.rl 1
      have k2 : w14.cell? ⟨w6.heap.size, 2, none⟩ = some (.string hd.r) := row_at DX14.out.rl 2
      have k3 : w14.cell? ⟨w9.heap.size, 0, none⟩ = some (.int .i64 h.n) := row_at DX14.out.rh 0
      have k4 : w14.cell? ⟨w9.heap.size, 1, none⟩ = some (.string h.r) := row_at DX14.out.rh 1
      have l1 := DX14.out.low
      have l2 := DX14.out.gl1
      have l3 := DX14.out.gh1
      have hv1 : v9.oneCell' = true := Own.one DX14.out.ol
      go_wp2_with fail
      refine wp_region_held_drew (S := fun w' => w'.cell? ⟨w6.heap.size, 0, none⟩ = some v9 ∧ w'.cell? ⟨w6.heap.size, 1, none⟩ = some (.int .i64 hd.n) ∧ w'.cell? ⟨w6.heap.size, 2, none⟩ = some (.string hd.r) ∧ w'.cell? ⟨w9.heap.size, 0, none⟩ = some (.int .i64 h.n) ∧ w'.cell? ⟨w9.heap.size, 1, none⟩ = some (.string h.r)) (by kernel_rfl) ⟨k0, k1, k2, k3, k4⟩ (fun hHeld => ?_)
      (refine wpAnyH_take (i := 0) (v := ?v0x7) rfl (by kernel_rfl) (by kernel_rfl) (by kernel_rfl) (fun _ _ _ h => h) (Or.inl ⟨by rfl, ?hy0x7⟩) (by assumption) ?rest0x7; case hy0x7 => (intro w hSw; (try dsimp only at hSw); go_split_ands; go_simp; (try with_reducible rfl)))
      try simp only [Act.put, List.setIfInBounds_toArray, List.set_cons_zero, List.set_cons_succ, List.getElem_toArray, List.getElem_cons_zero, List.getElem_cons_succ]
      (refine wpAnyH_take (i := 1) (v := ?v1x8) rfl (by kernel_rfl) (by kernel_rfl) (by kernel_rfl) (fun _ _ _ h => h) (Or.inl ⟨by rfl, ?hy1x8⟩) (by assumption) ?rest1x8; case hy1x8 => (intro w hSw; (try dsimp only at hSw); go_split_ands; go_simp; (try with_reducible rfl)))
      try simp only [Act.put, List.setIfInBounds_toArray, List.set_cons_zero, List.set_cons_succ, List.getElem_toArray, List.getElem_cons_zero, List.getElem_cons_succ]
      (refine wpAnyH_take (i := 2) (v := ?v2x9) rfl (by kernel_rfl) (by kernel_rfl) (by kernel_rfl) (fun _ _ _ h => h) (Or.inl ⟨by rfl, ?hy2x9⟩) (by assumption) ?rest2x9; case hy2x9 => (intro w hSw; (try dsimp only at hSw); go_split_ands; go_simp; (try with_reducible rfl)))
      try simp only [Act.put, List.setIfInBounds_toArray, List.set_cons_zero, List.set_cons_succ, List.getElem_toArray, List.getElem_cons_zero, List.getElem_cons_succ]
      (refine wpAnyH_take (i := 3) (v := ?v3x10) rfl (by kernel_rfl) (by kernel_rfl) (by kernel_rfl) (fun _ _ _ h => h) (Or.inl ⟨by rfl, ?hy3x10⟩) (by assumption) ?rest3x10; case hy3x10 => (intro w hSw; (try dsimp only at hSw); go_split_ands; go_simp; (try with_reducible rfl)))
      try simp only [Act.put, List.setIfInBounds_toArray, List.set_cons_zero, List.set_cons_succ, List.getElem_toArray, List.getElem_cons_zero, List.getElem_cons_succ]
      have J0 : w14.drew.heap[w.heap.size]? = some (.cells (lc (.slice none 0 0) hd0) 28 (0, 0)) := DX14.out.r0
      refine wpAnyH_ready (rs := [4]) (by kernel_rfl) (by simp) ?_
      refine AllReadyH.cons rfl (fun K hK => ?_) AllReadyH.nil
      rw [if_pos (by rfl)]
      refine wp_store_row 28 _ _ rfl w.heap.size (lc v9 hd) rfl rfl 28 _ J0 (sizeL _ _) rfl (oneL _ hv1) ?_
      refine hK.out _ _ (by obtain ⟨s0, s1, s2, s3, s4⟩ := hHeld; exact ⟨cell_row (by show w6.heap.size ≠ w.heap.size; omega) s0, cell_row (by show w6.heap.size ≠ w.heap.size; omega) s1, cell_row (by show w6.heap.size ≠ w.heap.size; omega) s2, cell_row (by show w9.heap.size ≠ w.heap.size; omega) s3, cell_row (by show w9.heap.size ≠ w.heap.size; omega) s4⟩) (fun hHeld => ?_)
      clear hK K
      try simp only [Act.put, List.setIfInBounds_toArray, List.set_cons_zero, List.set_cons_succ, List.getElem_toArray, List.getElem_cons_zero, List.getElem_cons_succ]
      (refine wpAnyH_take (i := 5) (v := ?v5x11) rfl (by kernel_rfl) (by kernel_rfl) (by kernel_rfl) (fun _ _ _ h => h) (Or.inl ⟨by rfl, ?hy5x11⟩) (by assumption) ?rest5x11; case hy5x11 => (intro w hSw; (try dsimp only at hSw); go_split_ands; go_simp; (try with_reducible rfl)))
      try simp only [Act.put, List.setIfInBounds_toArray, List.set_cons_zero, List.set_cons_succ, List.getElem_toArray, List.getElem_cons_zero, List.getElem_cons_succ]
      have J1 : (w14.drew.setRow w.heap.size (lc v9 hd)).heap[w.heap.size + 1]? = some (.cells (hc hd0) 26 (0, 0)) := (setRow_other _ _ _ _ (by omega)).trans DX14.out.r1
      refine wpAnyH_ready (rs := [6]) (by kernel_rfl) (by simp) ?_
      refine AllReadyH.cons rfl (fun K hK => ?_) AllReadyH.nil
      rw [if_pos (by rfl)]
      refine wp_store_row 26 _ _ rfl (w.heap.size + 1) (hc h) rfl rfl 26 _ J1 (sizeH _) rfl (oneH _) ?_
      refine hK.out _ _ (by obtain ⟨s0, s1, s2, s3, s4⟩ := hHeld; exact ⟨cell_row (by show w6.heap.size ≠ w.heap.size + 1; omega) s0, cell_row (by show w6.heap.size ≠ w.heap.size + 1; omega) s1, cell_row (by show w6.heap.size ≠ w.heap.size + 1; omega) s2, cell_row (by show w9.heap.size ≠ w.heap.size + 1; omega) s3, cell_row (by show w9.heap.size ≠ w.heap.size + 1; omega) s4⟩) (fun hHeld => ?_)
      clear hK K
      try simp only [Act.put, List.setIfInBounds_toArray, List.set_cons_zero, List.set_cons_succ, List.getElem_toArray, List.getElem_cons_zero, List.getElem_cons_succ]
      (refine wpAnyH_take (i := 7) (v := ?v7x12) rfl (by kernel_rfl) (by kernel_rfl) (by kernel_rfl) (fun _ _ _ h => h) (Or.inl ⟨by rfl, ?hy7x12⟩) (by assumption) ?rest7x12; case hy7x12 => (intro w hSw; (try dsimp only at hSw); go_split_ands; go_simp; (try with_reducible rfl)))
      try simp only [Act.put, List.setIfInBounds_toArray, List.set_cons_zero, List.set_cons_succ, List.getElem_toArray, List.getElem_cons_zero, List.getElem_cons_succ]
      refine wpAnyH_done (by kernel_rfl) ?_ _
      clear hHeld k0 k1 k2 k3 k4
      have F0 : ((w14.drew.setRow w.heap.size (lc v9 hd)).setRow (w.heap.size + 1) (hc h)).heap[w.heap.size]? = some (.cells (lc v9 hd) 28 (0, 0)) := (setRow_other _ _ _ _ (by omega)).trans (setRow_heap _ _ _ _ _ _ J0)
      have F1 : ((w14.drew.setRow w.heap.size (lc v9 hd)).setRow (w.heap.size + 1) (hc h)).heap[w.heap.size + 1]? = some (.cells (hc h) 26 (0, 0)) := setRow_heap _ _ _ _ _ _ J1
      have FB : Below w.heap.size w ((w14.drew.setRow w.heap.size (lc v9 hd)).setRow (w.heap.size + 1) (hc h)) := below_setRow (below_setRow (Below.drew (bW.out.trans (DX14.out.drawn.below.mono (by omega)))) (Nat.le_refl _) _) (by omega) _
      have FL := (Own.setRow (Own.setRow (w := w14.drew) DX14.out.ol (lc v9 hd) (g := w.heap.size) (.inl (by omega))) (hc h) (g := w.heap.size + 1) (.inl (by omega))).sl
      have FX := (Own.setRow (Own.setRow (w := w14.drew) DX14.out.ox (lc v9 hd) (g := w.heap.size) (.inl (by omega))) (hc h) (g := w.heap.size + 1) (.inl (by omega))).sl
      have FT := Oh.sh (On.keep (On.keep (w := w14.drew) (w' := w14.drew.setRow w.heap.size (lc v9 hd)) DX14.out.ot (fun k hk _ => setRow_other _ _ _ _ (by omega))) (w' := (w14.drew.setRow w.heap.size (lc v9 hd)).setRow (w.heap.size + 1) (hc h)) (fun k hk _ => setRow_other _ _ _ _ (by omega)))
      go_wp2
      exact bodyPost_ret (res_rct rfl _ _ w.heap.size (w.heap.size + 1) 28 26 (lc v9 hd) (hc h) (0, 0) _ _ rfl rfl F0 F1 Tryd.underlying28 Tryd.underlying26 rfl rfl (sizeL _ _) (sizeH _)) rfl ⟨v9, l, hd, u10, t', h, u13, x', rfl, HB14.out, FL, FT, FX, FB⟩

end Go.Proofs.YtccnhhdcdamgmaaDoor.Lg
