/- Texts in one: Dr1, SeN, Se3, Se7. -/
import Derived.Test.YtlhmemnaiobgkaaGreatDoorPq19
import Derived.Test.YtlhmemnaiobgkaaGreatDoorPq20
import Derived.Test.YtlhmemnaiobgkaaGreatDoorPq25
import Derived.Test.YtlhmemnaiobgkaaGreatDoorPq21
import Derived.Test.YtlhmemnaiobgkaaGreatDoorPq18
import Derived.Test.YtlhmemnaiobgkaaGreatDoorPq12
import Derived.Test.YtlhmemnaiobgkaaGreatDoorPq16
import Derived.Deep.DeepCutAuto
import Derived.Deep.CutBlock
/- Chapter 16, draws: what is to be reached. -/
namespace Go.Proofs.YtlhmemnaiobgkaaGreatDoor.Se
open Go.RowKit Go.Proofs.YtlhmemnaiobgkaaGreatDoor.Mem Go.Proofs.YtlhmemnaiobgkaaGreatDoor.Laws Go.Proofs.YtlhmemnaiobgkaaGreatDoor.Bytes Go.Proofs.YtlhmemnaiobgkaaGreatDoor.Ver Go.Proofs.YtlhmemnaiobgkaaGreatDoor.Ent Go.Proofs.YtlhmemnaiobgkaaGreatDoor.Fe Go.Proofs.YtlhmemnaiobgkaaGreatDoor.Draw Go.Proofs.YtlhmemnaiobgkaaGreatDoor.Mod
set_option linter.unusedVariables false
set_option linter.unusedSimpArgs false

/-- what a need is that DrawReach draws, an entry -/
def Dp (n : Nd) : Prop := n.path.size ≤ 60 ∧ n.pre ∈ preL ∧ okV n.a n.b n.c n.pre = true
def Dw (x : Ev) : Prop := x.n.path.size ≤ 60 ∧ x.n.pre.size ≤ 60 ∧ x.l.length ≤ 8 ∧ ∀ n ∈ x.l, Dp n
theorem okV_dn7 {n : Nd} (h : Dn n) : okV n.a n.b n.c n.pre = true := by
  have h1 : fits4 n.path n.a n.b n.c n.pre = true := h.2.1
  unfold fits4 at h1
  rw [Bool.and_eq_true, Bool.and_eq_true] at h1
  exact h1.1.2
theorem Dn.dp {n : Nd} (h : Dn n) : Dp n := ⟨(Dn.size h).1, h.2.2, okV_dn7 h⟩
theorem Dy.dw {x : Ev} (h : Dy x) : Dw x := ⟨(Dn.size h.1).1, by have := (Dn.size h.1).2; omega, by have := h.2.1; omega, fun n hn => Dn.dp (h.2.2 n hn)⟩
theorem Dp.size {n : Nd} (h : Dp n) : n.path.size ≤ 60 ∧ n.pre.size ≤ 60 := ⟨h.1, Nat.le_trans (preL_size _ h.2.1) (by omega)⟩
theorem dp_lit (p : ByteArray) (hp : p.size ≤ 60) (k : Nat) (hk : k ≤ 1000) : Dp ⟨p, 1, 0, (k : Int), ⟨#[]⟩⟩ := by
  refine ⟨hp, by unfold preL; exact List.mem_cons_self .., ?_⟩
  unfold okV inM
  simp only [Bool.and_eq_true, Bool.or_eq_true, decide_eq_true_eq]
  exact ⟨⟨⟨by omega, by omega⟩, by omega⟩, .inl rfl⟩
theorem On.one8 (w : World) (n : Nd) : On 5 (w.alloc (.cells (nc n) 38)) w.heap.size (w.alloc (.cells (nc n) 38)).heap.size 38 (.slice (some ⟨w.heap.size, 0, none⟩) 1 1) 1 (nds [n]) :=
  On.of ⟨rfl, .inr ⟨w.heap.size, 1, nc n, rfl, Nat.le_refl _, heap_alloc_new w _, Nat.le_refl _, by decide, rfl, rfl⟩⟩
theorem Sn.of (n m : Nat) (w : World) (cs : Array Value) (t : TypeId) (h : cs.size = m * n) : Sn n (w.alloc (.cells cs t)) (.slice (some ⟨w.heap.size, 0, none⟩) m m) m cs.toList := by
  refine ⟨by simp [h], some ⟨w.heap.size, 0, none⟩, m, rfl, Nat.le_refl _, fun h => (by cases h), fun _ => ⟨w.heap.size, 0, rfl, fun j hj => ?_⟩⟩
  rw [cell_of_row _ w.heap.size (0 + j) cs t (0, 0) (heap_alloc_new w _)]
  simp
/-- cells of a row that is owned are stored: what the row then holds -/
theorem On.put8 {n m : Nat} {w : World} {lo hi g cap : Nat} {e : TypeId} {cs : List Value} (o : On n w lo hi e (.slice (some ⟨g, 0, none⟩) m cap) m cs) :
    ∃ cur : List Value, w.heap[g]? = some (.cells cur.toArray e (0, 0)) ∧ cs.length = m * n ∧ m * n ≤ cur.length ∧ lo ≤ g ∧ g < hi ∧ (∀ j, j < m * n → cur[j]? = cs[j]?) ∧
      ∀ (w' : World) (off : Nat) (vs : List Value), w'.heap[g]? = some (.cells (putL cur off vs).toArray e (0, 0)) → On n w' lo hi e (.slice (some ⟨g, 0, none⟩) m cap) m (putL cs off vs) := by
  obtain ⟨⟨h1, h2⟩, h3⟩ := o
  rcases h2 with ⟨he, _⟩ | ⟨g', cap', cur, he, hb, hg, hnc, hcm, hcs, ht⟩
  · cases he
  · simp only [Value.slice.injEq, Option.some.injEq, Addr.mk.injEq] at he
    obtain ⟨⟨rfl, _⟩, _, rfl⟩ := he
    have hl : m * n ≤ cur.toList.length := by
      rw [Array.length_toList, hcs]
      exact Nat.mul_le_mul_right _ hnc
    have hc : ∀ j, j < m * n → cur.toList[j]? = cs[j]? := fun j hj => by
      rw [← ht, List.getElem?_take, if_pos (by omega)]
    refine ⟨cur.toList, by simpa using hg, h1, hl, hb, h3 g rfl, hc, fun w' off vs hw => ⟨⟨by rw [putL_len, h1], .inr ⟨g, cap, (putL cur.toList off vs).toArray, rfl, hb, hw, hnc, hcm, by simp [putL_len, hcs], ?_⟩⟩, h3⟩⟩
    apply List.ext_getElem?
    intro j
    by_cases hj : j < m * n
    · rw [List.getElem?_take, if_pos hj, List.toList_toArray, putL_get, putL_get, hc j hj]
      have e1 : j < cur.toList.length := by omega
      have e2 : j < cs.length := by omega
      by_cases h9 : off ≤ j ∧ j < off + vs.length
      · rw [if_pos ⟨h9.1, h9.2, e1⟩, if_pos ⟨h9.1, h9.2, e2⟩]
      · rw [if_neg (fun h => h9 ⟨h.1, h.2.1⟩), if_neg (fun h => h9 ⟨h.1, h.2.1⟩)]
    · have e1 : ((putL cur.toList off vs).toArray.toList.take (m * n))[j]? = none := List.getElem?_eq_none (by simp [putL_len]; omega)
      have e2 : (putL cs off vs)[j]? = none := List.getElem?_eq_none (by rw [putL_len]; omega)
      rw [e2]
      first | exact e1 | (rw [show (putL cs off vs).length = m * n by rw [putL_len, h1]]; exact e1)
theorem On.form1_8 {n m : Nat} {w : World} {lo hi : Nat} {e : TypeId} {v : Value} {cs : List Value} (h : On n w lo hi e v m cs) (hm : 0 < m) : ∃ g cap, v = .slice (some ⟨g, 0, none⟩) m cap := by
  rcases h.1.2 with ⟨_, rfl⟩ | ⟨g, cap, cur, rfl, _⟩
  · omega
  · exact ⟨g, cap, rfl⟩
theorem putL_left8 : ∀ (vs a b : List Value) (o : Nat), o + vs.length ≤ a.length → putL (a ++ b) o vs = putL a o vs ++ b := by
  intro vs
  induction vs with
  | nil => intro a b o _; rfl
  | cons v r ih =>
    intro a b o h
    rw [List.length_cons] at h
    rw [putL, putL, List.set_append_left _ _ (by omega), ih _ _ _ (by simp; omega)]
theorem putL_right8 : ∀ (vs a b : List Value) (o : Nat), putL (a ++ b) (a.length + o) vs = a ++ putL b o vs := by
  intro vs
  induction vs with
  | nil => intro a b o; rfl
  | cons v r ih =>
    intro a b o
    rw [putL, putL, List.set_append_right _ _ (by omega), show a.length + o - a.length = o by omega, Nat.add_assoc, ih]
/-- an entry is stored in another's place -/
theorem ecs_put (y : Ev) : ∀ (l : List Ev) (k : Nat), k < l.length → putL (ecs l) (k * 6) (ec y.n y.u).toList = ecs (l.set k y) := by
  intro l
  induction l with
  | nil => intro k hk; simp at hk
  | cons x r ih =>
    intro k hk
    have e : ecs (x :: r) = (ec x.n x.u).toList ++ ecs r := rfl
    have hl : (ec x.n x.u).toList.length = 6 := rfl
    cases k with
    | zero =>
      rw [e, Nat.zero_mul, putL_left8 _ _ _ _ (by rw [hl]; exact Nat.le_refl _)]
      rfl
    | succ k =>
      rw [e, show (k + 1) * 6 = (ec x.n x.u).toList.length + k * 6 by rw [hl]; omega, putL_right8, ih k (by simpa using hk)]
      rfl
theorem od_keep8 {w w' : World} {lo hi : Nat} {v : Value} {l : List Nd} {r : Option Nat} (h : Od w lo hi v l) (gr : w.grownBy w' r) (hr : ∀ j, v.ownBlock = some j → r ≠ some j) : Od w' lo hi v l :=
  On.keep1 h (fun j hj => gr.block j (On.lt h hj).2.2 (fun e9 => hr j hj e9.symm))
/-- what is owned as a row of entries is no row of needs -/
theorem On.neNeeds {w : World} {lo hi a b : Nat} {v u : Value} {cs : List Value} {m : Nat} {l : List Nd} (h : On 6 w lo hi 34 v m cs) (h9 : Od w a b u l) : ∀ j, u.ownBlock = some j → v.ownBlock ≠ some j := by
  intro j hj
  rcases h9.1.2 with ⟨rfl, _⟩ | ⟨g9, cap, cur, rfl, _, hgb, _⟩
  · simp [Value.ownBlock] at hj
  · simp [Value.ownBlock] at hj
    subst hj
    exact On.neRow h hgb (by decide)
/-- an entry is stored into owned entries -/
theorem Oet.set8 {w w' : World} {lo hi lo2 k g cap : Nat} {T : List Ev} {y : Ev} (h : Oet w lo hi (.slice (some ⟨g, 0, none⟩) T.length cap) T) (hy : Od w lo2 w.heap.size y.u y.l) (h2 : lo ≤ lo2) (hk : k < T.length) (gr : w.grownBy w' (some g))
    (hp : On 6 w' lo hi 34 (.slice (some ⟨g, 0, none⟩) T.length cap) T.length (putL (ecs T) (k * 6) (ec y.n y.u).toList)) : Oet w' lo w'.heap.size (.slice (some ⟨g, 0, none⟩) T.length cap) (T.set k y) := by
  rw [ecs_put y T k hk] at hp
  have hs := gr.size
  refine ⟨by rw [List.length_set]; exact On.mono hp (Nat.le_refl _) (Nat.le_trans h.2.2 hs), fun x hx => ?_, Nat.le_refl _⟩
  rcases List.mem_or_eq_of_mem_set hx with h9 | rfl
  · exact On.mono (od_keep8 (h.2.1 x h9) gr (fun j hj => On.neNeeds h.1 (h.2.1 x h9) j hj)) (Nat.le_refl _) (Nat.le_trans h.2.2 hs)
  · exact On.mono (od_keep8 hy gr (fun j hj => On.neNeeds h.1 hy j hj)) h2 hs
/-- two entries more -/
theorem Oet.app8 {w w' : World} {lo hi : Nat} {v v' : Value} {T E : List Ev} (h : Oet w lo hi v T) (hd : ∀ x ∈ E, Od w lo w.heap.size x.u x.l) (gr : w.grownBy w' v.ownBlock) (o : On 6 w' lo w'.heap.size 34 v' (T.length + E.length) (ecs T ++ ecs E)) : Oet w' lo w'.heap.size v' (T ++ E) := by
  have hs := gr.size
  refine ⟨by rw [List.length_append, ecs_app]; exact o, fun y hy => ?_, Nat.le_refl _⟩
  rcases List.mem_append.1 hy with h9 | h9
  · exact On.mono (od_keep8 (h.2.1 y h9) gr (fun j hj => On.neNeeds h.1 (h.2.1 y h9) j hj)) (Nat.le_refl _) (Nat.le_trans h.2.2 hs)
  · exact On.mono (od_keep8 (hd y h9) gr (fun j hj => On.neNeeds h.1 (hd y h9) j hj)) (Nat.le_refl _) hs
/-- how the answer is told -/
def DrP (w : World) (e : Ending) (w' : World) : Prop := ∃ (v v2 : Value) (T : List Ev) (s : List Nd), e = .returned (.tuple #[v, v2]) ∧ T.length ≤ 200 ∧ (∀ x ∈ T, Dw x) ∧ s.length ≤ 8 ∧ (∀ n ∈ s, Dp n) ∧ Se w' v T ∧ Sd w' v2 s ∧ Below w.heap.size w w'

set_option maxRecDepth 1000000 in
set_option maxHeartbeats 3000000 in
theorem drawReach_any (w : World) (vb : Value) (xs : List Int) (hs : Sl w vb (bs xs)) (hby : Byt xs) (hx : xs.length ≤ 140737488355328) :
    Calls Tryz.prog 8 #[vb] w fun e w' => DrP w e w' := by
  obtain ⟨i0, hi, hz0, hz1, hz2⟩ := info_parts infoN
  obtain ⟨i1, hi1, hy0_, hy1_, hy2_⟩ := info_parts infoEn
  have HSL : Hid (Sl w vb (bs xs)) := hs
  clear hs
  have B0 : Hid (Below w.heap.size w w) := Below.refl _ _
  go_enter Tryz.func8, Tryz.ntmps8
  go_wp2_with fail
  refine (new_any w _ xs (HSL.out.later B0.out) hby hx).mono ?_
  rintro e W1 ⟨rfl, d1⟩
  have hcg : w.heap.size < W1.heap.size := d1.cur.lt
  have HSW : Hid (Sl w vb (bs xs)) := (HSL.out.later B0.out)
  have cu0 : Hid True := trivial
  have bw0 : Hid True := trivial
  have z1 := d1.apart.size
  have B1 : Hid (Below w.heap.size w W1) := B0.out.trans (d1.below.mono B0.out.size)
  have cu1 := Kd.e d1
  have bw1 := Kd.f d1
  clear cu0 bw0 d1
  go_wp2_with fail
  refine (draw16_any w W1 (w.heap.size) _ xs HSW.out hby hx bw1.out (Nat.le_refl _) cu1.out).mono ?_
  rintro e W2 ⟨v9, T, rfl, hT1, hT8, hDX, o9, d2⟩
  have z2 := d2.apart.size
  have B2 : Hid (Below w.heap.size w W2) := B0.out.trans (d2.below.mono B0.out.size)
  have cu2 := Kd.e d2
  have bw2 := Kd.f d2
  clear cu1 bw1 d2
  obtain ⟨ao, cap, rfl, hc9⟩ := o9.form
  have HDX := Ke.h hDX
  clear hDX
  have f_o2 : Hid (Oet W2 W1.heap.size W2.heap.size (.slice ao T.length cap) T) := o9
  clear o9
  go_wp2_with fail
  refine (roots15_any w W2 (w.heap.size) _ xs HSW.out hby hx bw2.out (Nat.le_refl _) cu2.out _ T (W1.heap.size) (W2.heap.size) f_o2.out (by omega) hT1 hT8).mono ?_
  rintro e W3 ⟨v8, R, rfl, hR1, hR3, hWN, o8, d3⟩
  have z3 := d3.apart.size
  have B3 : Hid (Below w.heap.size w W3) := B0.out.trans (d3.below.mono B0.out.size)
  have cu3 := Kd.e d3
  have bw3 := Kd.f d3
  have f_o3 : Hid (Oet W3 W1.heap.size W2.heap.size (.slice ao T.length cap) T) := Oet.drawn f_o2.out d3 (by omega)
  clear cu2 bw2 d3 f_o2
  obtain ⟨a8, c8, rfl⟩ := Od.slice o8
  have HWN : Hid (∀ n ∈ R, Dp n) := fun n hn => by obtain ⟨x, hx, rfl⟩ := hWN.sub n hn; exact Dn.dp (HDX.out x hx).1
  clear hWN
  have f_d3 : Hid (Odt W3 W2.heap.size W3.heap.size (.slice a8 R.length c8) R) := ⟨o8, Nat.le_refl _⟩
  clear o8
  go_wp2_with fail
  refine (below_any w W3 (w.heap.size) _ xs 12 (by omega) (by omega) HSW.out hby hx bw3.out (Nat.le_refl _) cu3.out).mono ?_
  rintro e W4 ⟨y, rfl, hy0, hy1, d4⟩
  have z4 := d4.apart.size
  have B4 : Hid (Below w.heap.size w W4) := B0.out.trans (d4.below.mono B0.out.size)
  have cu4 := Kd.e d4
  have bw4 := Kd.f d4
  have f_o4 : Hid (Oet W4 W1.heap.size W2.heap.size (.slice ao T.length cap) T) := Oet.drawn f_o3.out d4 (by omega)
  have f_d4 : Hid (Odt W4 W2.heap.size W3.heap.size (.slice a8 R.length c8) R) := Odt.drawn f_d3.out d4 (by omega)
  clear cu3 bw3 d4 f_o3 f_d3
  go_upto_block 0 with fail
  go_cut [6] (fun s6 wx => ∃ (T9 : List Ev) (R9 : List Nd) (lo9 hi9 lo8 hi8 : Nat) (a7 : Option Addr) (c7 : Nat), s6 = .slice a7 R9.length c7 ∧ T9.length = T.length ∧ (∀ x ∈ T9, Dw x) ∧ R9.length ≤ 4 ∧ (∀ n ∈ R9, Dp n) ∧ w.heap.size < lo9 ∧ w.heap.size < lo8 ∧ Oet wx lo9 hi9 (.slice ao T.length cap) T9 ∧ Odt wx lo8 hi8 (.slice a7 R9.length c7) R9 ∧ Cur wx (w.heap.size) vb xs.length ∧ Below w.heap.size w wx)
  case first =>
    by_cases h0 : y = 0
    · subst h0
      go_wp2_with fail
      refine (need_any w W4 (w.heap.size) _ xs HSW.out hby hx bw4.out (Nat.le_refl _) cu4.out).mono ?_
      rintro e W5 ⟨n, rfl, hn0, d5⟩
      have z5 := d5.apart.size
      have B5 : Hid (Below w.heap.size w W5) := B0.out.trans (d5.below.mono B0.out.size)
      have cu5 := Kd.e d5
      have bw5 := Kd.f d5
      have f_o5 : Hid (Oet W5 W1.heap.size W2.heap.size (.slice ao T.length cap) T) := Oet.drawn f_o4.out d5 (by omega)
      have f_d5 : Hid (Odt W5 W2.heap.size W3.heap.size (.slice a8 R.length c8) R) := Odt.drawn f_d4.out d5 (by omega)
      clear cu4 bw4 d5 f_o4 f_d4
      have O1 : On 5 W5 W2.heap.size W5.heap.size 38 (.slice a8 R.length c8) R.length (nds R) := On.mono f_d5.out.1 (Nat.le_refl _) f_d5.out.2
      have O2 : ∀ ob, On 5 (W5.alloc ob) W2.heap.size (W5.alloc ob).heap.size 38 (.slice a8 R.length c8) R.length (nds R) := fun ob => On.alloc O1 ob
      have k1 : R.length + 1 ≤ maxLen := by unfold maxLen; omega
      have k2 : (R.length + 1) * 56 ≤ 140737488355328 := by omega
      have k3 : ∀ ob, W2.heap.size ≤ (W5.alloc ob).heap.size := fun ob => by simp; omega
      go_wp2_with (at_builtin; go_must (refine wpl_appn 5 (by omega) _ rfl (.tmp 21) (.tmp 24) 25 rfl 38 i0 (.agg #[.string ⟨#[]⟩, .int .i64 0, .int .i64 0, .int .i64 0, .string ⟨#[]⟩]) 56 Tryz.underlying25 hi hz0 hz1 hz2 rfl W2.heap.size _ R.length (nds R) rfl (O2 _) _ rfl 1 n.cs (Sn.one 5 W5 (nc n) 38 rfl) (cs_oneN n) k1 k2 (k3 _) ?_))
      intro v7 W6 o7 b7 g7
      have bl : Below W5.heap.size W5 (W5.alloc (.cells (nc n) 38)) := (Below.refl _ _).alloc (Nat.le_refl _) _
      have hown : ∀ j, (Value.slice a8 R.length c8).ownBlock = some j → W2.heap.size ≤ j ∧ j < W3.heap.size := fun j hj => by have := On.lt f_d5.out.1 hj; omega
      have ot : Oet W6 W1.heap.size W2.heap.size (.slice ao T.length cap) T := (Oet.later f_o5.out bl).gro g7 (fun j hj => by have := hown j hj; omega)
      have od : Odt W6 W2.heap.size W6.heap.size v7 (R ++ [n]) := ⟨Od.snoc o7, Nat.le_refl _⟩
      have cu : Cur W6 (w.heap.size) vb xs.length := (cu5.out.keep bl).gro g7 (fun h9 => by have := hown _ h9; omega)
      have bw : Below w.heap.size w W6 := (bw5.out.trans (bl.mono bw5.out.size)).trans (b7.mono (by omega))
      obtain ⟨a7, c7, rfl⟩ := Od.slice od.1
      clear O1 O2 k1 k2 k3 o7 b7 g7
      go_wp2_with fail
      go_meet
      exact ⟨T, (R ++ [n]), W1.heap.size, W2.heap.size, W2.heap.size, W6.heap.size, _, _, rfl, rfl, (fun x hx => Dy.dw (HDX.out x hx)), (by simp; omega), (fun m hm => by rcases List.mem_append.1 hm with h9 | h9; exact HWN.out m h9; rw [List.mem_singleton.1 h9]; exact Dn.dp hn0), by omega, by omega, ot, od, cu, bw⟩
    · by_cases h1 : y = 1
      · subst h1
        have c2 : (0 : Int) < (T.length : Int) := by omega
        go_wp2_with fail
        refine (below_any w W4 (w.heap.size) _ xs (T.length : Int) (by omega) (by omega) HSW.out hby hx bw4.out (Nat.le_refl _) cu4.out).mono ?_
        rintro e W5 ⟨y3, rfl, hy30, hy31, d5⟩
        have z5 := d5.apart.size
        have B5 : Hid (Below w.heap.size w W5) := B0.out.trans (d5.below.mono B0.out.size)
        have cu5 := Kd.e d5
        have bw5 := Kd.f d5
        have f_o5 : Hid (Oet W5 W1.heap.size W2.heap.size (.slice ao T.length cap) T) := Oet.drawn f_o4.out d5 (by omega)
        have f_d5 : Hid (Odt W5 W2.heap.size W3.heap.size (.slice a8 R.length c8) R) := Odt.drawn f_d4.out d5 (by omega)
        clear cu4 bw4 d5 f_o4 f_d4
        obtain ⟨p, hp0, hp1⟩ : ∃ p : Nat, y3 = (p : Int) ∧ p < T.length := ⟨y3.toNat, by omega, by omega⟩
        subst hp0
        clear hy30 hy31
        go_wp2_with fail
        refine (any5_any w W5 (w.heap.size) _ xs HSW.out hby hx bw5.out (Nat.le_refl _) cu5.out).mono ?_
        rintro e W6 ⟨n, v, l, rfl, hbn, hln, hl4, o5, d6⟩
        have z6 := d6.apart.size
        have B6 : Hid (Below w.heap.size w W6) := B0.out.trans (d6.below.mono B0.out.size)
        have cu6 := Kd.e d6
        have bw6 := Kd.f d6
        have f_o6 : Hid (Oet W6 W1.heap.size W2.heap.size (.slice ao T.length cap) T) := Oet.drawn f_o5.out d6 (by omega)
        have f_d6 : Hid (Odt W6 W2.heap.size W3.heap.size (.slice a8 R.length c8) R) := Odt.drawn f_d5.out d6 (by omega)
        clear cu5 bw5 d6 f_o5 f_d5
        obtain ⟨gb, cp, hv⟩ := Se.On.form1_8 f_o6.out.1 (by omega)
        simp only [Value.slice.injEq] at hv
        obtain ⟨rfl, _, rfl⟩ := hv
        obtain ⟨cur, hcur, hcl, hcm, hg1, hg2, hcs, hput⟩ := Se.On.put8 f_o6.out.1
        have e9a : (p : Int) < (T.length : Int) := by omega
        have hk6 : p * 6 + 6 ≤ T.length * 6 := by omega
        have HP := Ke.h hput
        clear hput hcs
        obtain ⟨au, cu9, rfl⟩ := Od.slice o5
        go_wp2_with (refine wpl_partG rfl 34 _ _ rfl gb (p * 6) (ec n (.slice au l.length cu9)) rfl rfl cur 34 hcur (by show p * 6 + 6 ≤ _; omega) (sizeE _ _) (oneE _ rfl) _ rfl ?_)
        intro W7 r8 g8
        have ot : Oet W7 W1.heap.size W7.heap.size (.slice (some ⟨gb, 0, none⟩) T.length cap) (T.set p ⟨n, .slice au l.length cu9, l⟩) := Oet.set8 (y := ⟨n, .slice au l.length cu9, l⟩) f_o6.out o5 (by omega) hp1 g8 (HP.out W7 (p * 6) (ec n (.slice au l.length cu9)).toList r8)
        have od : Odt W7 W2.heap.size W3.heap.size (.slice a8 R.length c8) R := Odt.gro f_d6.out g8 (fun j hj => by injection hj with hj; omega)
        have cu : Cur W7 (w.heap.size) vb xs.length := cu6.out.gro g8 (fun h9 => by injection h9 with h9; omega)
        have bw : Below w.heap.size w W7 := belowGro bw6.out g8 bw6.out.size (fun j hj => by injection hj with hj; omega)
        clear HP r8 g8 hcur
        go_wp2_with fail
        go_meet
        exact ⟨(T.set p ⟨n, .slice au l.length cu9, l⟩), R, W1.heap.size, W7.heap.size, W2.heap.size, W3.heap.size, _, _, rfl, by rw [List.length_set], (fun x hx => by rcases List.mem_or_eq_of_mem_set hx with h9 | rfl; exact Dy.dw (HDX.out x h9); exact ⟨hbn.1, Nat.le_trans hbn.2 (by omega), by show l.length ≤ 8; omega, fun m hm => Dn.dp (hln m hm)⟩), (by omega), HWN.out, by omega, by omega, ot, od, cu, bw⟩
      · by_cases h2 : y = 2
        · subst h2
          go_wp2_with fail
          have bl : Below W4.heap.size W4 (W4.alloc (.cells #[] 38)) := (Below.refl _ _).alloc (Nat.le_refl _) _
          go_meet
          exact ⟨T, [], W1.heap.size, W2.heap.size, W4.heap.size, (W4.alloc (.cells #[] 38)).heap.size, some ⟨W4.heap.size, 0, none⟩, 0, rfl, rfl, (fun x hx => Dy.dw (HDX.out x hx)), by simp, (fun m hm => (List.not_mem_nil hm).elim), by omega, by omega, Oet.later f_o4.out bl, ⟨On.lit 5 W4 W4.heap.size 38 (Nat.le_refl _), Nat.le_refl _⟩, cu4.out.keep bl, bw4.out.trans (bl.mono bw4.out.size)⟩
        · have n0 : (y == 0) = false := by simpa using h0
          have n1 : (y == 1) = false := by simpa using h1
          have n2 : (y == 2) = false := by simpa using h2
          go_wp2_with fail
          go_meet
          exact ⟨T, R, W1.heap.size, W2.heap.size, W2.heap.size, W3.heap.size, _, _, rfl, rfl, (fun x hx => Dy.dw (HDX.out x hx)), (by omega), HWN.out, by omega, by omega, f_o4.out, f_d4.out, cu4.out, bw4.out⟩
  case rest =>
  obtain ⟨T9, R9, lo9, hi9, lo8, hi8, a7, c7, rfl, hT9, hTw, hR4, hRp, hl9, hl8, ot, od, cu, bw⟩ := hcut
  revert ot od cu bw
  generalize wc = W5
  intro ot od cu bw
  have HT9 := Ke.h hT9
  have HTW := Ke.h hTw
  have HRP := Ke.h hRp
  have OT := Ke.h ot
  have OD := Ke.h od
  have cu5 := Ke.h cu
  have bw5 := Ke.h bw
  clear hT9 hTw hRp ot od cu bw f_o4 f_d4 cu4 bw4 B4 HDX HWN
  go_wp2_with fail
  refine (once_any w W5 (w.heap.size) _ xs 60 (by omega) (by omega) HSW.out hby hx bw5.out (Nat.le_refl _) cu5.out).mono ?_
  rintro e W6 ⟨bb, rfl, d6⟩
  have OT2 := Ke.h (Oet.drawn OT.out d6 (by omega))
  have OD2 := Ke.h (Odt.drawn OD.out d6 (by omega))
  have cu6 := Kd.e d6
  have bw6 := Kd.f d6
  clear OT OD cu5 bw5 d6
  cases bb
  · go_wp2
    go_ret2
    exact ⟨_, _, T9, R9, rfl, (by rw [HT9.out]; omega), HTW.out, by omega, HRP.out, OT2.out.se, OD2.out.1.sd, bw6.out⟩
  · obtain ⟨X0, HX0, bX, oX⟩ : ∃ X, Hid (W6.alloc (.cells #[] 34) = X) ∧ Below W6.heap.size W6 X ∧ Oet X W6.heap.size X.heap.size (.slice (some ⟨W6.heap.size, 0, none⟩) 0 0) [] := ⟨_, rfl, (Below.refl _ _).alloc (Nat.le_refl _) _, On.lit 6 W6 W6.heap.size 34 (Nat.le_refl _), (fun x hx => (List.not_mem_nil hx).elim), Nat.le_refl _⟩
    have OX := Ke.h oX
    have DX := Ke.h bX
    clear oX bX OT2 OD2
    go_wp2_with fail
    rw [HX0.out]
    go_loopw [5, 7] (fun lv iv wr => ∃ (j : Nat) (E : List Ev), j ≤ 70 ∧ iv = .int .i64 (j : Int) ∧ Hid (E.length = 2 * j) ∧ Hid (∀ x ∈ E, Dw x) ∧ Hid (Oet wr W6.heap.size wr.heap.size lv E) ∧ Hid (Below W6.heap.size W6 wr)) (fun _ iv _ => 70 - (intOf iv).toNat)
    case atStart => exact ⟨0, [], by omega, rfl, (by show _ = _; rfl), (fun x hx => (List.not_mem_nil hx).elim), OX, DX⟩
    case round =>
      obtain ⟨j, E, hj, rfl, HEl, HE, OE, DE⟩ := hrel
      obtain ⟨Y0, hY0⟩ : ∃ X, X = wr := ⟨_, rfl⟩
      subst hY0
      clear OX DX
      have zE := DE.out.size
      obtain ⟨aE, cE, rfl, _⟩ := OE.out.form
      by_cases hj7 : j < 70
      · have hj2 : (j : Int) < 70 := by omega
        have wj : IntKind.i64.wrap ((j : Int) + 1) = (j : Int) + 1 := by rw [IntKind.wrap_i64]; omega
        obtain ⟨Y1, HY1, b1, y1, hS1, re1⟩ := Ke.l1 Y0 #[.string ⟨#[109]⟩, .int .i64 1, .int .i64 0, .int .i64 (j : Int), .string ⟨#[]⟩, .slice none 0 0] 34
        go_upto_region 17 with fail
        rw [HY1.out]
        have b2 : Below Y1.heap.size Y1 (Y1.alloc (.cells #[.string ⟨#[110]⟩, .int .i64 1, .int .i64 0, .int .i64 (j : Int), .string ⟨#[]⟩] 38)) := (Below.refl _ _).alloc (Nat.le_refl _) _
        have z2 : Y1.heap.size + 1 ≤ (Y1.alloc (.cells #[.string ⟨#[110]⟩, .int .i64 1, .int .i64 0, .int .i64 (j : Int), .string ⟨#[]⟩] 38)).heap.size := by simp
        have o2 : Od (Y1.alloc (.cells #[.string ⟨#[110]⟩, .int .i64 1, .int .i64 0, .int .i64 (j : Int), .string ⟨#[]⟩] 38)) Y1.heap.size (Y1.alloc (.cells #[.string ⟨#[110]⟩, .int .i64 1, .int .i64 0, .int .i64 (j : Int), .string ⟨#[]⟩] 38)).heap.size (.slice (some ⟨Y1.heap.size, 0, none⟩) 1 1) [⟨⟨#[110]⟩, 1, 0, (j : Int), ⟨#[]⟩⟩] := On.one8 Y1 ⟨⟨#[110]⟩, 1, 0, (j : Int), ⟨#[]⟩⟩
        have re2 := Ke.r re1 b2
        go_wp2_with (refine wpl_oneG rfl 25 _ _ rfl Y0.heap.size 5 (.slice (some ⟨Y1.heap.size, 0, none⟩) 1 1) ?_ ?_ [.string ⟨#[109]⟩, .int .i64 1, .int .i64 0, .int .i64 (j : Int), .string ⟨#[]⟩, .slice none 0 0] 34 ?_ ?_ ?_ ?_ [.string ⟨#[109]⟩, .int .i64 1, .int .i64 0, .int .i64 (j : Int), .string ⟨#[]⟩, .slice (some ⟨Y1.heap.size, 0, none⟩) 1 1] ?_ ?_)
        any_goals first | rfl | exact re2.out | exact Nat.le_of_ble_eq_true rfl | kernel_rfl
        intro Y3 re3 g3
        have o3 := od_keep8 o2 g3 (fun i9 h9 e9 => by have := On.lt o2 h9; injection e9 with e9; omega)
        have oE1 := Oet.later OE.out b1
        have oE2 := Oet.later oE1 b2
        have oE3 := Oet.gro oE2 g3 (fun i9 h9 => by injection h9 with h9; omega)
        have D3 : Below W6.heap.size W6 Y3 := belowGro ((DE.out.trans (b1.mono zE)).trans (b2.mono (by omega))) g3 (by have := b1.size; have := b2.size; omega) (fun i9 h9 => by injection h9 with h9; omega)
        have z3 := g3.size
        obtain ⟨Y4, HY4, b4, z4, HZ4, o4⟩ : ∃ X, Hid (Y3.alloc (.cells (nc ⟨⟨#[109]⟩, 1, 0, ((j + 1 : Nat) : Int), ⟨#[]⟩⟩) 38) = X) ∧ Below Y3.heap.size Y3 X ∧ Y3.heap.size + 1 ≤ X.heap.size ∧ Hid (X.heap.size = Y3.heap.size + 1) ∧ Od X Y3.heap.size X.heap.size (.slice (some ⟨Y3.heap.size, 0, none⟩) 1 1) [⟨⟨#[109]⟩, 1, 0, ((j + 1 : Nat) : Int), ⟨#[]⟩⟩] := ⟨_, rfl, (Below.refl _ _).alloc (Nat.le_refl _) _, by simp, (by show _ = _; simp), On.one8 Y3 _⟩
        obtain ⟨Y5, HY5, b5, y5, hS5, rf5⟩ := Ke.l1 Y4 #[.string ⟨#[110]⟩, .int .i64 1, .int .i64 0, .int .i64 (j : Int), .string ⟨#[]⟩, .slice (some ⟨Y3.heap.size, 0, none⟩) 1 1] 34
        have HY4b : Hid (Y3.alloc (.cells #[.string ⟨#[109]⟩, .int .i64 1, .int .i64 0, .int .i64 ((j : Int) + 1), .string ⟨#[]⟩] 38) = Y4) := HY4
        go_upto_region 19 with fail
        rw [HY4b.out, HY5.out]
        have re4 := Ke.r (Ke.h re3) b4
        have re5 := Ke.r re4 b5
        have ce5 := Ke.c re5
        have rf6 : Hid (Y5.heap[Y3.heap.size + 1]? = some (.cells #[.string ⟨#[110]⟩, .int .i64 1, .int .i64 0, .int .i64 (j : Int), .string ⟨#[]⟩, .slice (some ⟨Y3.heap.size, 0, none⟩) 1 1] 34 (0, 0))) := by show _ = _; rw [← HZ4.out]; exact rf5.out
        have cf5 := Ke.c rf6
        have o34 := On.later o3 b4 (by omega)
        have o35 := On.later o34 b5 (by omega)
        have o45 := On.later o4 b5 (by omega)
        have oE5 := Oet.later (Oet.later oE3 b4) b5
        have D5 : Below W6.heap.size W6 Y5 := (D3.trans (b4.mono D3.size)).trans (b5.mono (by have := D3.size; have := b4.size; omega))
        have z5 := b5.size
        obtain ⟨e1, he1⟩ : ∃ e1 : Ev, e1 = ⟨⟨⟨#[109]⟩, 1, 0, (j : Int), ⟨#[]⟩⟩, .slice (some ⟨Y1.heap.size, 0, none⟩) 1 1, [⟨⟨#[110]⟩, 1, 0, (j : Int), ⟨#[]⟩⟩]⟩ := ⟨_, rfl⟩
        obtain ⟨e2, he2⟩ : ∃ e2 : Ev, e2 = ⟨⟨⟨#[110]⟩, 1, 0, (j : Int), ⟨#[]⟩⟩, .slice (some ⟨Y3.heap.size, 0, none⟩) 1 1, [⟨⟨#[109]⟩, 1, 0, ((j + 1 : Nat) : Int), ⟨#[]⟩⟩]⟩ := ⟨_, rfl⟩
        have SY : Sn 6 (Y5.alloc (.cells #[.string ⟨#[109]⟩, .int .i64 1, .int .i64 0, .int .i64 (j : Int), .string ⟨#[]⟩, .slice (some ⟨Y1.heap.size, 0, none⟩) 1 1, .string ⟨#[110]⟩, .int .i64 1, .int .i64 0, .int .i64 (j : Int), .string ⟨#[]⟩, .slice (some ⟨Y3.heap.size, 0, none⟩) 1 1] 34)) (.slice (some ⟨Y5.heap.size, 0, none⟩) 2 2) 2 (ecs [e1, e2]) := by rw [he1, he2]; exact Sn.of 6 2 Y5 _ 34 rfl
        have HONE : ∀ u ∈ ecs [e1, e2], u.oneCell' = true := by rw [he1, he2]; intro u hu; simp only [ecs, List.mem_cons, List.not_mem_nil, or_false] at hu; rcases hu with rfl | rfl | rfl | rfl | rfl | rfl | rfl | rfl | rfl | rfl | rfl | rfl <;> rfl
        have k1 : E.length + 2 ≤ maxLen := by rw [HEl.out]; unfold maxLen; omega
        have k2 : (E.length + 2) * 80 ≤ 140737488355328 := by rw [HEl.out]; omega
        have O2 : ∀ ob, On 6 (Y5.alloc ob) W6.heap.size (Y5.alloc ob).heap.size 34 (.slice aE E.length cE) E.length (ecs E) := fun ob => On.alloc (On.mono oE5.1 (Nat.le_refl _) oE5.2.2) ob
        have k3 : ∀ ob, W6.heap.size ≤ (Y5.alloc ob).heap.size := fun ob => by have := D5.size; simp; omega
        have HD1 : Hid (∀ x ∈ E ++ [e1, e2], Dw x) := by intro x hx; rcases List.mem_append.1 hx with h9 | h9; exact HE.out x h9; simp only [List.mem_cons, List.not_mem_nil, or_false] at h9; rcases h9 with rfl | rfl; (rw [he1]; exact ⟨Nat.le_of_ble_eq_true rfl, Nat.le_of_ble_eq_true rfl, Nat.le_of_ble_eq_true rfl, fun n hn => by rw [List.mem_singleton.1 hn]; exact dp_lit _ (Nat.le_of_ble_eq_true rfl) j (by omega)⟩); (rw [he2]; exact ⟨Nat.le_of_ble_eq_true rfl, Nat.le_of_ble_eq_true rfl, Nat.le_of_ble_eq_true rfl, fun n hn => by rw [List.mem_singleton.1 hn]; exact dp_lit _ (Nat.le_of_ble_eq_true rfl) (j + 1) (by omega)⟩)
        have OD : ∀ x ∈ [e1, e2], Od Y5 W6.heap.size Y5.heap.size x.u x.l := by intro x hx; simp only [List.mem_cons, List.not_mem_nil, or_false] at hx; rcases hx with rfl | rfl; (rw [he1]; exact On.mono o35 (by omega) (by omega)); (rw [he2]; exact On.mono o45 (by omega) (by omega))
        have HOD := Ke.h OD
        have HOE := Ke.h oE5
        have HD5 := Ke.h D5
        clear he1 he2 OD oE1 oE2 oE3 oE5 o3 o34 o35 o45 o4 o2 D3 D5 re1 re2 re3 re4 g3
        go_wp2_with (at_builtin; go_must (refine wpl_appn 6 (by omega) _ rfl (.tmp 62) (.tmp 65) 24 rfl 34 i1 (.agg #[.string ⟨#[]⟩, .int .i64 0, .int .i64 0, .int .i64 0, .string ⟨#[]⟩, .slice none 0 0]) 80 Tryz.underlying24 hi1 hy0_ hy1_ hy2_ rfl W6.heap.size _ E.length (ecs E) rfl (O2 _) _ rfl 2 (ecs [e1, e2]) SY HONE k1 k2 (k3 _) ?_))
        intro v9 Y7 o7 b7 g7
        have bl : Below Y5.heap.size Y5 (Y5.alloc (.cells #[.string ⟨#[109]⟩, .int .i64 1, .int .i64 0, .int .i64 (j : Int), .string ⟨#[]⟩, .slice (some ⟨Y1.heap.size, 0, none⟩) 1 1, .string ⟨#[110]⟩, .int .i64 1, .int .i64 0, .int .i64 (j : Int), .string ⟨#[]⟩, .slice (some ⟨Y3.heap.size, 0, none⟩) 1 1] 34)) := (Below.refl _ _).alloc (Nat.le_refl _) _
        have OE7 : Hid (Oet Y7 W6.heap.size Y7.heap.size v9 (E ++ [e1, e2])) := Oet.app8 (HOE.out.later bl) (fun x hx => On.mono (On.later (HOD.out x hx) bl (Nat.le_refl _)) (Nat.le_refl _) bl.size) g7 o7
        have D7 : Hid (Below W6.heap.size W6 Y7) := (HD5.out.trans (bl.mono HD5.out.size)).trans b7
        obtain ⟨a9, c9, rfl, _⟩ := OE7.out.form
        clear O2 SY HONE o7 b7 g7 bl ce5 cf5
        go_wp2
        go_roundw
        case rel => exact ⟨j + 1, E ++ [e1, e2], by omega, by go_num, (by show _ = _; rw [List.length_append, HEl.out]; simp; omega), HD1, OE7, D7⟩
        case measure => simp [intOf]; omega
      · have hj2 : ¬ (j : Int) < 70 := by omega
        have cuE : Hid (Cur Y0 (w.heap.size) vb xs.length) := cu6.out.keep DE.out
        have bwE : Hid (Below w.heap.size w Y0) := bw6.out.trans (DE.out.mono bw6.out.size)
        have hwW : w.heap.size < W6.heap.size := cu6.out.lt
        obtain ⟨Y1, HY1, b1, y1, hS1, rl1⟩ := Ke.l1 Y0 (is [0, 40, 39, 41]).toArray 3
        have cu1 := Kd.c cuE b1
        have bw1 := Ke.b bwE b1
        have OE1 := Ke.h (Oet.later OE.out b1)
        go_wp2_with fail
        rw [show Y0.alloc (.cells #[.int .i64 0, .int .i64 40, .int .i64 39, .int .i64 41] 3) = Y1 from HY1.out]
        refine (int_any w Y1 (w.heap.size) _ xs Y0.heap.size [0, 40, 39, 41] rl1.out (by omega) (by simp) (by simp) HSW.out hby hx bw1.out (Nat.le_refl _) cu1.out).mono ?_
        rintro e Y2 ⟨y7, rfl, hy7, d2⟩
        have OE2 := Ke.h (Oet.drawn OE1.out d2 (by omega))
        have bw2 := Kd.f d2
        clear OE1 cu1 bw1 d2 OE cuE bwE DE
        obtain ⟨kk, hkk, hk7⟩ : ∃ kk : Nat, y7 = (kk : Int) ∧ kk ≤ 1000 := by simp only [List.mem_cons, List.not_mem_nil, or_false] at hy7; rcases hy7 with rfl | rfl | rfl | rfl; exact ⟨0, rfl, by omega⟩; exact ⟨40, rfl, by omega⟩; exact ⟨39, rfl, by omega⟩; exact ⟨41, rfl, by omega⟩
        subst hkk
        clear hy7
        obtain ⟨Y3, HY3, b3, o3⟩ : ∃ X, Hid (Y2.alloc (.cells #[.string ⟨#[109]⟩, .int .i64 1, .int .i64 0, .int .i64 (kk : Int), .string ⟨#[]⟩] 38) = X) ∧ Below Y2.heap.size Y2 X ∧ Od X Y2.heap.size X.heap.size (.slice (some ⟨Y2.heap.size, 0, none⟩) 1 1) [⟨⟨#[109]⟩, 1, 0, (kk : Int), ⟨#[]⟩⟩] := ⟨_, rfl, (Below.refl _ _).alloc (Nat.le_refl _) _, On.one8 Y2 _⟩
        have bw3 := Ke.b bw2 b3
        have OE3 := Ke.h (Oet.later OE2.out b3)
        have O3 := Ke.h o3
        clear o3 OE2
        go_wp2_with fail
        rw [HY3.out]
        go_ret2
        exact ⟨_, _, E, [⟨⟨#[109]⟩, 1, 0, (kk : Int), ⟨#[]⟩⟩], rfl, (by rw [HEl.out]; omega), HE.out, by simp, (fun n hn => by rw [List.mem_singleton.1 hn]; exact dp_lit _ (Nat.le_of_ble_eq_true rfl) kk hk7), OE3.out.se, O3.out.sd, bw3.out⟩

end Go.Proofs.YtlhmemnaiobgkaaGreatDoor.Se

/- Chapter 16, the laws' helper: is a need in a row. -/
namespace Go.Proofs.YtlhmemnaiobgkaaGreatDoor.Se
open Go.RowKit Go.Proofs.YtlhmemnaiobgkaaGreatDoor.Mem Go.Proofs.YtlhmemnaiobgkaaGreatDoor.Laws Go.Proofs.YtlhmemnaiobgkaaGreatDoor.Ver Go.Proofs.YtlhmemnaiobgkaaGreatDoor.Ent Go.Proofs.YtlhmemnaiobgkaaGreatDoor.Fe
set_option linter.unusedVariables false
set_option linter.unusedSimpArgs false

set_option maxRecDepth 1000000 in
set_option maxHeartbeats 4000000 in
theorem has_law (w : World) (v : Value) (l : List Nd) (q : Nd) (h : Sd w v l) (hl : l.length ≤ 1000000000000) :
    Calls Tryz.prog 13 #[v, .agg #[.string q.path, .int .i64 q.a, .int .i64 q.b, .int .i64 q.c, .string q.pre]] w fun e w' => e = .returned (.bool (has16 l q)) ∧ Below w.heap.size w w' := by
  have HS : Hid (Sd w v l) := h
  obtain ⟨_, ao, cap, rfl, hcap, _, _⟩ := h
  have B0 : Hid (Below w.heap.size w w) := Below.refl _ _
  obtain ⟨W1, HW1, b1, y1, hS1, r_q1⟩ := Ke.l1 w #[.string q.path, .int .i64 q.a, .int .i64 q.b, .int .i64 q.c, .string q.pre] 38
  have z1 := b1.size
  have B1 := Ke.b B0 b1
  have c_q1 := Ke.c r_q1
  go_enter Tryz.func13, Tryz.ntmps13
  go_wp2_with fail
  rw [HW1.out]
  go_loopw [5] (fun i wr => ∃ k : Nat, k ≤ l.length ∧ i = .int .i64 (k : Int) ∧ Hid (∀ x ∈ l.take k, isN q x = false) ∧ Hid (Below w.heap.size w wr) ∧ Hid (wr.heap[w.heap.size]? = some (.cells #[.string q.path, .int .i64 q.a, .int .i64 q.b, .int .i64 q.c, .string q.pre] 38 (0, 0)))) (fun i _ => l.length - (intOf i).toNat)
  case atStart => exact ⟨0, Nat.zero_le _, rfl, (fun x hx => by simp at hx), B1, r_q1⟩
  case round =>
    obtain ⟨k, hk, rfl, HN, B2, r_q2⟩ := hrel
    obtain ⟨W2, hW2⟩ : ∃ X, X = wr := ⟨_, rfl⟩
    subst hW2
    clear r_q1 c_q1
    have c_q2 := Ke.c r_q2
    by_cases hlt : k < l.length
    · have hlt2 : (k : Int) < (l.length : Int) := by omega
      obtain ⟨x, hx⟩ : ∃ x, l[k]? = some x := ⟨l[k], by simp [hlt]⟩
      obtain ⟨b, off, cap9, he, _, m0, m1, m2, m3, m4⟩ := Sd.at (HS.out.later B2.out) hx
      simp only [Value.slice.injEq] at he
      obtain ⟨rfl, _, rfl⟩ := he
      have HX : Hid (l[k]? = some x) := hx
      clear hx
      obtain ⟨V, hV⟩ : ∃ V, isN q x = V := ⟨_, rfl⟩
      have HI : Hid (isN q x = V) := hV
      have ev : ∀ W, _ := fun W => eqlN W x q
      simp only [hV] at ev
      have gv : ∀ W op y z xs ys, _ := fun W op y z xs ys => grdN W op y z xs ys
      clear hV
      go_wp2_with fail
      refine wp_region_held_drew (S := fun w' => w'.cell? ⟨w.heap.size, 0, none⟩ = some (.string q.path) ∧ w'.cell? ⟨w.heap.size, 1, none⟩ = some (.int .i64 q.a) ∧ w'.cell? ⟨w.heap.size, 2, none⟩ = some (.int .i64 q.b) ∧ w'.cell? ⟨w.heap.size, 3, none⟩ = some (.int .i64 q.c) ∧ w'.cell? ⟨w.heap.size, 4, none⟩ = some (.string q.pre) ∧ w'.cell? ⟨b, off + k * 5, none⟩ = some (.string x.path) ∧ w'.cell? ⟨b, off + k * 5 + 1, none⟩ = some (.int .i64 x.a) ∧ w'.cell? ⟨b, off + k * 5 + 2, none⟩ = some (.int .i64 x.b) ∧ w'.cell? ⟨b, off + k * 5 + 3, none⟩ = some (.int .i64 x.c) ∧ w'.cell? ⟨b, off + k * 5 + 4, none⟩ = some (.string x.pre)) (by kernel_rfl) ⟨(c_q2 0), (c_q2 1), (c_q2 2), (c_q2 3), (c_q2 4), m0, m1, m2, m3, m4⟩ (fun hHeld => ?_)
      refine Ke.y 0 rfl (fun _ _ _ h => h) ?_
      try simp only [Act.put, pu1, pu2, pu3, pu4, pu5, pu6]
      refine Ke.y 1 rfl (fun _ _ _ h => h) ?_
      try simp only [Act.put, pu1, pu2, pu3, pu4, pu5, pu6]
      refine Ke.y 2 rfl (fun _ _ _ h => h) ?_
      try simp only [Act.put, pu1, pu2, pu3, pu4, pu5, pu6]
      refine Ke.y 3 rfl (fun _ _ _ h => h) ?_
      try simp only [Act.put, pu1, pu2, pu3, pu4, pu5, pu6]
      refine Ke.y 4 rfl (fun _ _ _ h => h) ?_
      try simp only [Act.put, pu1, pu2, pu3, pu4, pu5, pu6]
      refine Ke.y 5 rfl (fun _ _ _ h => h) ?_
      try simp only [Act.put, pu1, pu2, pu3, pu4, pu5, pu6]
      refine wpAnyH_done (by kernel_rfl) ?_ _
      clear hHeld
      obtain ⟨W3, HW3, b3⟩ : ∃ X, Hid (W2.drew = X) ∧ Below W2.heap.size W2 X := ⟨_, rfl, Below.drew (Below.refl _ _)⟩
      rw [HW3.out]
      have z3 := b3.size
      have B3 := Ke.b B2 b3
      have r_q3 := Ke.r r_q2 b3
      have c_q3 := Ke.c r_q3
      clear r_q2 c_q2
      cases V
      · go_wp2
        go_roundw
        case rel => exact ⟨k + 1, by omega, by go_num, fun y hy => by rw [take_snoc15 HX.out] at hy; rcases List.mem_append.1 hy with h9 | h9; exact HN.out y h9; rw [List.mem_singleton.1 h9]; exact HI.out, B3, r_q3⟩
        case measure => simp [intOf]; omega
      · go_wp2
        go_ret
        exact ⟨by rw [has16_hit HX.out HI.out]; rfl, B3.out⟩
    · have hlt2 : ¬ (k : Int) < (l.length : Int) := by omega
      have HE : Hid (k = l.length) := by show _ = _; omega
      go_wp2
      go_ret
      exact ⟨by rw [has16_none (fun y hy => HN.out y (by rw [HE.out, List.take_length]; exact hy))]; rfl, B2.out⟩

end Go.Proofs.YtlhmemnaiobgkaaGreatDoor.Se

/- Chapter 16: what the laws say of what is reached and selected; plain facts. -/
namespace Go.Proofs.YtlhmemnaiobgkaaGreatDoor.Se
open Go.RowKit Go.Proofs.YtlhmemnaiobgkaaGreatDoor.Mem Go.Proofs.YtlhmemnaiobgkaaGreatDoor.Laws Go.Proofs.YtlhmemnaiobgkaaGreatDoor.Ver Go.Proofs.YtlhmemnaiobgkaaGreatDoor.Ent Go.Proofs.YtlhmemnaiobgkaaGreatDoor.Fe
set_option linter.unusedVariables false
set_option linter.unusedSimpArgs false

/-- what is reached without a fault -/
structure Rch (l : List Ev) (roots row : List Nd) : Prop where
  app : ∃ t, row = roots ++ t
  nodup : row.Nodup
  len : row.length ≤ 60
  has : ∀ q ∈ row, Hs l row q
  least : ∀ C : List Nd, (∀ q ∈ roots, q ∈ C) → (∀ q ∈ C, ∀ e, find15 q l = some e → ∀ n ∈ e.l, n ∈ C) → ∀ q ∈ row, q ∈ C
theorem reach_form {l : List Ev} {roots : List Nd} (h : (reach16 l roots).2 = 0) : needs5 roots = true ∧ reach16 l roots = walk16 l 61 roots 0 := by
  unfold reach16 at h ⊢
  by_cases hn : needs5 roots = true
  · rw [if_pos hn]; exact ⟨hn, rfl⟩
  · rw [if_neg hn] at h; cases h
theorem reach_rch {l : List Ev} {roots : List Nd} (h : (reach16 l roots).2 = 0) : Rch l roots (reach16 l roots).1 := by
  obtain ⟨hn, he⟩ := reach_form h
  rw [he] at h ⊢
  obtain ⟨hu, hl⟩ := needs_up hn
  obtain ⟨h1, h2, h3, h4, h5⟩ := walk16_good l 61 roots 0 hu.nodup (by omega) (Nat.zero_le _) (by omega) (fun q hq => by simp at hq) h
  exact ⟨h1, h2, h3, h4, h5⟩
theorem Rch.root {l : List Ev} {roots row : List Nd} (h : Rch l roots row) {q : Nd} (hq : q ∈ roots) : q ∈ row := by
  obtain ⟨t, ht⟩ := h.app
  rw [ht]; simp [hq]
/-- what was selected covers all that was reached, and is closed -/
theorem Rch.closed {l : List Ev} {roots row out : List Nd} (h : Rch l roots row) (hs : Sel row out) : closed16 l out = true := by
  unfold closed16
  rw [List.all_eq_true]
  intro q hq
  obtain ⟨e, h1, _, h3⟩ := h.has q (hs.sub q hq)
  simp only [h1]
  exact covers_iff.2 fun n hn => hs.cov n (h3 n hn)
theorem Rch.covers {l : List Ev} {roots row out : List Nd} (h : Rch l roots row) (hs : Sel row out) : covers16 out roots = true :=
  covers_iff.2 fun n hn => hs.cov n (h.root hn)
theorem Sel.covers {row out ns : List Nd} (hs : Sel row out) (hn : ∀ n ∈ ns, n ∈ row) : covers16 out ns = true :=
  covers_iff.2 fun n h => hs.cov n (hn n h)
theorem Sel.some {row out : List Nd} (hs : Sel row out) (h : row ≠ []) : out ≠ [] := by
  cases row with
  | nil => exact absurd rfl h
  | cons q r =>
    obtain ⟨x, hx, _⟩ := hs.cov q (by simp)
    intro he
    rw [he] at hx
    cases hx
/-- what was selected, selected of itself -/
theorem select_again {D : Nd → Prop} (hL : Lin D) {l : List Ev} {roots row : List Nd} (h : Rch l roots row) (hD : ∀ x ∈ row, D x) (hn : needs5 (sel16 row) = true) :
    select16 l (sel16 row) = (sel16 row, 0) := by
  have hs := sel_sel hL row hD
  have hc : (reach16 l (sel16 row)).2 = 0 := by
    unfold reach16
    rw [if_pos hn]
    obtain ⟨hu, hl⟩ := needs_up hn
    exact walk16_ok l h.len h.has 61 _ 0 hu.nodup (by omega) hs.sub
  have h2 := reach_rch hc
  have hsub : ∀ x ∈ (reach16 l (sel16 row)).1, x ∈ row := h2.least row hs.sub (by
    intro q hq e he n hn
    obtain ⟨e2, a1, _, a3⟩ := h.has q hq
    rw [he] at a1
    simp only [Option.some.injEq] at a1
    subst a1
    exact a3 n hn)
  have hs2 := sel_sel hL (reach16 l (sel16 row)).1 (fun x hx => hD x (hsub x hx))
  unfold select16
  rw [hc, sel_again hL hs hs2 hD (fun x hx => h2.root hx) hsub]
/-- texts of a list, all apart, are no more than the list has -/
theorem up_len {l : List Nd} {P : List ByteArray} (h : Up l) (hP : ∀ x ∈ l, x.path ∈ P) : l.length ≤ P.length := by
  induction l generalizing P with
  | nil => simp
  | cons x r ih =>
    obtain ⟨h1, h2⟩ := List.pairwise_cons.1 h
    have hx : x.path ∈ P := hP x (by simp)
    have := ih (P := P.filter fun y => !eqT y x.path) h2 (fun y hy => List.mem_filter.2 ⟨hP y (by simp [hy]), by
      rw [eqT_no.2 (fun he => by have := h1 y hy; rw [he, lt_irr] at this; cases this)]; rfl⟩)
    have hlt : (P.filter fun y => !eqT y x.path).length < P.length := by
      rw [List.length_filter_lt_length_iff_exists]
      exact ⟨x.path, hx, by rw [(eqT_same _ _).2 rfl]; decide⟩
    simp
    omega
theorem up_rise : ∀ l : List Nd, Up l → (∀ x ∈ l, x.ok = true) → rise l = true := by
  intro l
  induction l with
  | nil => intro _ _; rfl
  | cons x r ih =>
    intro h ho
    obtain ⟨h1, h2⟩ := List.pairwise_cons.1 h
    cases r with
    | nil => exact ho x (by simp)
    | cons y r =>
      show (x.ok && ltT x.path y.path && rise (y :: r)) = true
      rw [ho x (by simp), h1 y (by simp), ih h2 (fun z hz => ho z (by simp [hz]))]
      rfl
theorem find_name {q : Nd} {l : List Ev} {e : Ev} (h : find15 q l = some e) : e.n = q ∧ e ∈ l := by
  unfold find15 at h
  exact ⟨(isN_iff _ _).1 (by simpa using List.find?_some h), List.mem_of_find?_eq_some h⟩
/-- what has an entry is right -/
theorem Hs.ok {l : List Ev} {row : List Nd} {q : Nd} (h : Hs l row q) : q.ok = true := by
  obtain ⟨e, h1, h2, _⟩ := h
  rw [← (find_name h1).1]
  unfold entry5 at h2
  simp only [Bool.and_eq_true] at h2
  exact h2.1.1.2
/-- all that is reached has what the roots have and all needs -/
theorem Rch.all {l : List Ev} {roots row : List Nd} (h : Rch l roots row) {D : Nd → Prop} (h1 : ∀ q ∈ roots, D q) (h2 : ∀ e ∈ l, ∀ n ∈ e.l, D n) : ∀ q ∈ row, D q := by
  haveI : DecidablePred D := fun a => Classical.propDecidable _
  intro q hq
  have := h.least (row.filter fun x => decide (D x)) (fun x hx => List.mem_filter.2 ⟨h.root hx, by simpa using h1 x hx⟩) (by
    intro x hx e he n hn
    obtain ⟨hx1, _⟩ := List.mem_filter.1 hx
    obtain ⟨e2, a1, _, a3⟩ := h.has x hx1
    rw [he] at a1
    simp only [Option.some.injEq] at a1
    subst a1
    exact List.mem_filter.2 ⟨a3 n hn, by simpa using h2 e (find_name he).2 n hn⟩) q hq
  simpa using (List.mem_filter.1 this).2

end Go.Proofs.YtlhmemnaiobgkaaGreatDoor.Se

/- Chapter 16, the specification's side: what is reached. -/
namespace Go.Proofs.YtlhmemnaiobgkaaGreatDoor.Se
open Go.RowKit Go.Proofs.YtlhmemnaiobgkaaGreatDoor.Mem Go.Proofs.YtlhmemnaiobgkaaGreatDoor.Laws Go.Proofs.YtlhmemnaiobgkaaGreatDoor.Ver Go.Proofs.YtlhmemnaiobgkaaGreatDoor.Ent Go.Proofs.YtlhmemnaiobgkaaGreatDoor.Fe
set_option linter.unusedVariables false
set_option linter.unusedSimpArgs false

theorem w_none {l : List Ev} {R : List Nd} {k f : Nat} {q : Nd} (h : R[k]? = some q) (hf : find15 q l = none) : walk16 l (f + 1) R k = ([], 2) := by
  rw [walk16]; simp only [h, hf]
theorem w_bad {l : List Ev} {R : List Nd} {k f : Nat} {q : Nd} {e : Ev} (h : R[k]? = some q) (hf : find15 q l = some e) (hb : entry5 e.n e.l = false) : walk16 l (f + 1) R k = ([], 2) := by
  rw [walk16]; simp only [h, hf, hb]; rfl
theorem w_many {l : List Ev} {R : List Nd} {k f : Nat} {q : Nd} {e : Ev} (h : R[k]? = some q) (hf : find15 q l = some e) (hb : entry5 e.n e.l = true) (ha : add16 R e.l = none) : walk16 l (f + 1) R k = ([], 3) := by
  rw [walk16]; simp only [h, hf, hb, ha]; rfl
theorem w_go {l : List Ev} {R T : List Nd} {k f : Nat} {q : Nd} {e : Ev} (h : R[k]? = some q) (hf : find15 q l = some e) (hb : entry5 e.n e.l = true) (ha : add16 R e.l = some T) : walk16 l (f + 1) R k = walk16 l f T (k + 1) := by
  rw [walk16]; simp only [h, hf, hb, ha]; rfl
theorem w_end {l : List Ev} {R : List Nd} {k f : Nat} (h : R.length ≤ k) : walk16 l (f + 1) R k = (R, 0) := by
  rw [walk16, List.getElem?_eq_none h]
theorem drop_cons16 {l : List Nd} {i : Nat} {n : Nd} (h : l[i]? = some n) : l.drop i = n :: l.drop (i + 1) := by
  obtain ⟨hi, he⟩ := List.getElem?_eq_some_iff.1 h
  rw [List.drop_eq_getElem_cons hi, he]
theorem add_has {l T : List Nd} {i : Nat} {n : Nd} (h : l[i]? = some n) (hT : T.length ≤ 60) (hh : has16 T n = true) : add16 T (l.drop i) = add16 T (l.drop (i + 1)) := by
  have hp : put16 T n = T := by unfold put16; rw [if_pos hh]
  rw [drop_cons16 h, add16, hp, if_neg (by omega)]
theorem add_new {l T : List Nd} {i : Nat} {n : Nd} (h : l[i]? = some n) (hT : T.length + 1 ≤ 60) (hh : has16 T n = false) : add16 T (l.drop i) = add16 (T ++ [n]) (l.drop (i + 1)) := by
  have hp : put16 T n = T ++ [n] := by unfold put16; rw [if_neg (by rw [hh]; decide)]
  rw [drop_cons16 h, add16, hp, if_neg (by simp; omega)]
theorem add_many {l T : List Nd} {i : Nat} {n : Nd} (h : l[i]? = some n) (hT : ¬ T.length + 1 ≤ 60) (hh : has16 T n = false) : add16 T (l.drop i) = none := by
  have hp : put16 T n = T ++ [n] := by unfold put16; rw [if_neg (by rw [hh]; decide)]
  rw [drop_cons16 h, add16, hp, if_pos (by simp; omega)]
theorem none_od {W W1 W2 : World} {lo : Nat} {v : Value} (o : Od W2 lo W1.heap.size v []) (h12 : W1.heap.size ≤ W2.heap.size) (d : Below W2.heap.size W2 W) : Od W lo W.heap.size v [] := On.mono (On.later o d h12) (Nat.le_refl _) (Nat.le_trans h12 d.size)

set_option maxRecDepth 1000000 in
set_option maxHeartbeats 8000000 in
theorem reach_spec (w : World) (v1 v2 : Value) (l : List Ev) (s : List Nd) (h1 : Se w v1 l) (h2 : Sd w v2 s) (hl : l.length ≤ 1000000000) (hs : s.length ≤ 1000000000) (hy1 : ∀ e ∈ l, e.n.path.size ≤ 1000000000000 ∧ e.n.pre.size ≤ 1000000000000 ∧ e.l.length ≤ 1000000000 ∧ ∀ x ∈ e.l, x.path.size ≤ 1000000000000 ∧ x.pre.size ≤ 1000000000000) (hy2 : ∀ x ∈ s, x.path.size ≤ 1000000000000 ∧ x.pre.size ≤ 1000000000000) :
    Calls Tryz.prog 10 #[v1, v2] w fun e w' => ∃ v', e = .returned (.tuple #[v', .int .i64 (reach16 l s).2]) ∧ Od w' w.heap.size w'.heap.size v' (reach16 l s).1 ∧ Below w.heap.size w w' := by
  obtain ⟨i0, hi, hz0, hz1, hz2⟩ := info_parts infoN
  have HS1 : Hid (Se w v1 l) := h1
  have HS2 : Hid (Sd w v2 s) := h2
  obtain ⟨ao, cap, rfl, hcap⟩ := h1.form
  obtain ⟨_, ao2, cap2, rfl, hcap2, _, _⟩ := h2
  clear h1
  obtain ⟨W1, HW1, b1, hs1, o1⟩ : ∃ X, Hid (w.alloc (.cells #[] 38) = X) ∧ Below w.heap.size w X ∧ X.heap.size = w.heap.size + 1 ∧ Hid (Od X w.heap.size X.heap.size (.slice (some ⟨w.heap.size, 0, none⟩) 0 0) []) := ⟨_, rfl, (Below.refl _ _).alloc (Nat.le_refl _) _, by simp, On.lit 5 w w.heap.size 38 (Nat.le_refl _)⟩
  have q0 := needs_spec W1 (.slice ao2 s.length cap2) s (HS2.out.later b1) (by omega) hy2
  obtain ⟨N0, hN0⟩ : ∃ N, needs5 s = N := ⟨_, rfl⟩
  rw [hN0] at q0
  have HN : Hid (needs5 s = N0) := hN0
  clear hN0
  go_enter Tryz.func10, Tryz.ntmps10
  go_wp2_with fail
  rw [HW1.out]
  refine q0.mono ?_
  rintro e W2 ⟨rfl, b2⟩
  clear q0
  have z2 := b2.size
  have B2 : Hid (Below w.heap.size w W2) := b1.trans (b2.mono b1.size)
  have o2 : Hid (Od W2 w.heap.size W1.heap.size (.slice (some ⟨w.heap.size, 0, none⟩) 0 0) []) := On.later o1.out b2 (Nat.le_refl _)
  clear b1 b2 o1
  cases N0
  · have HR : Hid (reach16 l s = ([], 1)) := by show _ = _; unfold reach16; rw [if_neg (by rw [HN.out]; decide)]
    go_wp2
    go_ret2
    exact ⟨_, by rw [HR.out]; rfl, by rw [HR.out]; exact none_od o2.out z2 (Below.refl _ _), B2.out⟩
  have hs20 := (needs_up HN.out).2
  have HR : Hid (walk16 l (61 - 0) s 0 = reach16 l s) := by show _ = _; unfold reach16; rw [if_pos HN.out]
  have sA : ∀ ob, Sn 5 (W2.alloc ob) (.slice ao2 s.length cap2) s.length (nds s) := fun ob => Sn.later HS2.out (B2.out.alloc B2.out.size _)
  have OL := On.lit 5 W2 W2.heap.size 38 (Nat.le_refl _)
  have k1 : 0 + s.length ≤ maxLen := by unfold maxLen; omega
  have k2 : (0 + s.length) * 56 ≤ 140737488355328 := by omega
  go_wp2_with (at_builtin; go_must (refine wpl_appn 5 (by omega) _ rfl (.tmp 16) (.tmp 17) 25 rfl 38 i0 (.agg #[.string ⟨#[]⟩, .int .i64 0, .int .i64 0, .int .i64 0, .string ⟨#[]⟩]) 56 Tryz.underlying25 hi hz0 hz1 hz2 rfl W2.heap.size _ 0 [] rfl OL _ rfl s.length (nds s) (sA _) (nds_one s) k1 k2 (by simp) ?_))
  intro v3 W3 o3 b3 _
  have o3 : Hid (Od W3 W2.heap.size W3.heap.size v3 s) := o3
  have D3 : Hid (Below W2.heap.size W2 W3) := ((Below.refl _ _).alloc (Nat.le_refl _) _).trans b3
  clear b3 sA OL
  go_wp2_with fail
  go_loopw [7, 8] (fun rv iv wr => ∃ (k : Nat) (R : List Nd), iv = .int .i64 (k : Int) ∧ k ≤ R.length ∧ R.length ≤ 60 ∧ Hid (walk16 l (61 - k) R k = reach16 l s) ∧ Hid (Od wr W2.heap.size wr.heap.size rv R) ∧ Hid (Below W2.heap.size W2 wr)) (fun _ iv _ => 61 - (intOf iv).toNat)
  case atStart => exact ⟨0, s, rfl, Nat.zero_le _, by omega, HR, o3, D3⟩
  case round =>
    obtain ⟨k, R, rfl, hk, hR, HK, HO, D4⟩ := hrel
    obtain ⟨W4, hW4⟩ : ∃ X, X = wr := ⟨_, rfl⟩
    subst hW4
    clear HR o3 D3 k1 k2
    have B4 : Hid (Below w.heap.size w W4) := B2.out.trans (D4.out.mono B2.out.size)
    obtain ⟨aoR, capR, hrv⟩ := on_slice5 HO.out
    subst hrv
    by_cases hlt : k < R.length
    · have hlt2 : (k : Int) < (R.length : Int) := by omega
      obtain ⟨x, hx⟩ : ∃ x, R[k]? = some x := ⟨R[k], by simp [hlt]⟩
      obtain ⟨b, off, cap9, he, _, m0, m1, m2, m3, m4⟩ := Sd.at HO.out.sd hx
      simp only [Value.slice.injEq] at he
      obtain ⟨rfl, _, rfl⟩ := he
      have HX : Hid (R[k]? = some x) := hx
      clear hx
      have HK : Hid (walk16 l ((60 - k) + 1) R k = reach16 l s) := by have h9 := HK.out; rw [show 61 - k = (60 - k) + 1 by omega] at h9; exact h9
      have q1 : ∀ W, Below w.heap.size w W → _ := fun W hW => at15_spec W _ l x (HS1.out.later hW) (by omega)
      rcases at15_find x l 0 with ⟨f1, f2⟩ | ⟨m, y, f1, f2, f3⟩
      · simp only [f1] at q1
        have HF : Hid (reach16 l s = ([], 2)) := HK.out.symm.trans (w_none HX.out f2)
        clear f1 f2
        go_wp2_with fail
        refine wp_region_held_drew (S := fun w' => w'.cell? ⟨b, off + k * 5, none⟩ = some (.string x.path) ∧ w'.cell? ⟨b, off + k * 5 + 1, none⟩ = some (.int .i64 x.a) ∧ w'.cell? ⟨b, off + k * 5 + 2, none⟩ = some (.int .i64 x.b) ∧ w'.cell? ⟨b, off + k * 5 + 3, none⟩ = some (.int .i64 x.c) ∧ w'.cell? ⟨b, off + k * 5 + 4, none⟩ = some (.string x.pre)) (by kernel_rfl) ⟨m0, m1, m2, m3, m4⟩ (fun hHeld => ?_)
        obtain ⟨W5, HW5, b5⟩ : ∃ X, Hid (W4.drew = X) ∧ Below W4.heap.size W4 X := ⟨_, rfl, Below.drew (Below.refl _ _)⟩
        have HHW5 := HW5.out
        rw [HHW5] at hHeld ⊢
        clear HHW5
        have z5 := b5.size
        have B5 := Ke.b B4 b5
        refine Ke.y 0 rfl (fun _ _ _ h => h) ?_
        try simp only [Act.put, pu1, pu2, pu3, pu4, pu5, pu6]
        refine Ke.y 1 rfl (fun _ _ _ h => h) ?_
        try simp only [Act.put, pu1, pu2, pu3, pu4, pu5, pu6]
        refine Ke.y 2 rfl (fun _ _ _ h => h) ?_
        try simp only [Act.put, pu1, pu2, pu3, pu4, pu5, pu6]
        refine Ke.y 3 rfl (fun _ _ _ h => h) ?_
        try simp only [Act.put, pu1, pu2, pu3, pu4, pu5, pu6]
        refine Ke.y 4 rfl (fun _ _ _ h => h) ?_
        try simp only [Act.put, pu1, pu2, pu3, pu4, pu5, pu6]
        refine Ke.y 5 rfl (fun _ _ _ h => h) ?_
        try simp only [Act.put, pu1, pu2, pu3, pu4, pu5, pu6]
        refine Ke.y 6 rfl (fun _ _ _ h => h) ?_
        try simp only [Act.put, pu1, pu2, pu3, pu4, pu5, pu6]
        refine Ke.y 7 rfl (fun _ _ _ h => h) ?_
        try simp only [Act.put, pu1, pu2, pu3, pu4, pu5, pu6]
        refine Ke.y 8 rfl (fun _ _ _ h => h) ?_
        try simp only [Act.put, pu1, pu2, pu3, pu4, pu5, pu6]
        refine Ke.y 9 rfl (fun _ _ _ h => h) ?_
        try simp only [Act.put, pu1, pu2, pu3, pu4, pu5, pu6]
        refine Ke.y 10 rfl (fun _ _ _ h => h) ?_
        try simp only [Act.put, pu1, pu2, pu3, pu4, pu5, pu6]
        refine Ke.z 11 rfl (fun K hK => ?_)
        go_simp
        refine (q1 W5 B5.out).mono ?_
        rintro e W6 ⟨rfl, b6⟩
        refine hK.out _ _ ⟨(keepR (W := W5) hHeld.1 b6), (keepR (W := W5) hHeld.2.1 b6), (keepR (W := W5) hHeld.2.2.1 b6), (keepR (W := W5) hHeld.2.2.2.1 b6), (keepR (W := W5) hHeld.2.2.2.2 b6)⟩ (fun hHeld => ?_)
        clear hK K
        try simp only [Act.put, pu1, pu2, pu3, pu4, pu5, pu6]
        have z6 := b6.size
        have B6 := Ke.b B5 b6
        refine Ke.y 12 rfl (fun _ _ _ h => h) ?_
        try simp only [Act.put, pu1, pu2, pu3, pu4, pu5, pu6]
        refine wpAnyH_done (by kernel_rfl) ?_ _
        clear hHeld
        have bw : Below W4.heap.size W4 W6 := b5.trans (b6.mono b5.size)
        have D6 := Ke.b D4 bw
        have HO6 : Hid (Od W6 W2.heap.size W6.heap.size _ R) := Od.up HO.out bw
        clear HO bw D4 m0 m1 m2 m3 m4 q1
        go_wp2
        go_ret2
        exact ⟨_, by rw [HF.out]; rfl, by rw [HF.out]; exact none_od o2.out z2 D6.out, B6.out⟩
      · simp only [f1, Nat.zero_add] at q1
        have HF : Hid (find15 x l = some y) := f3
        have hm : m < l.length := (List.getElem?_eq_some_iff.1 f2).1
        have hm2 : (m : Int) < (l.length : Int) := by omega
        have hm3 : ¬ (m : Int) < 0 := by omega
        have HY : Hid (l[m]? = some y) := f2
        obtain ⟨hya, hyb, hyc, hyd⟩ := hy1 y (List.mem_of_getElem? f2)
        clear f1 f2 f3
        go_wp2_with fail
        refine wp_region_held_drew (S := fun w' => w'.cell? ⟨b, off + k * 5, none⟩ = some (.string x.path) ∧ w'.cell? ⟨b, off + k * 5 + 1, none⟩ = some (.int .i64 x.a) ∧ w'.cell? ⟨b, off + k * 5 + 2, none⟩ = some (.int .i64 x.b) ∧ w'.cell? ⟨b, off + k * 5 + 3, none⟩ = some (.int .i64 x.c) ∧ w'.cell? ⟨b, off + k * 5 + 4, none⟩ = some (.string x.pre)) (by kernel_rfl) ⟨m0, m1, m2, m3, m4⟩ (fun hHeld => ?_)
        obtain ⟨W5, HW5, b5⟩ : ∃ X, Hid (W4.drew = X) ∧ Below W4.heap.size W4 X := ⟨_, rfl, Below.drew (Below.refl _ _)⟩
        have HHW5 := HW5.out
        rw [HHW5] at hHeld ⊢
        clear HHW5
        have z5 := b5.size
        have B5 := Ke.b B4 b5
        refine Ke.y 0 rfl (fun _ _ _ h => h) ?_
        try simp only [Act.put, pu1, pu2, pu3, pu4, pu5, pu6]
        refine Ke.y 1 rfl (fun _ _ _ h => h) ?_
        try simp only [Act.put, pu1, pu2, pu3, pu4, pu5, pu6]
        refine Ke.y 2 rfl (fun _ _ _ h => h) ?_
        try simp only [Act.put, pu1, pu2, pu3, pu4, pu5, pu6]
        refine Ke.y 3 rfl (fun _ _ _ h => h) ?_
        try simp only [Act.put, pu1, pu2, pu3, pu4, pu5, pu6]
        refine Ke.y 4 rfl (fun _ _ _ h => h) ?_
        try simp only [Act.put, pu1, pu2, pu3, pu4, pu5, pu6]
        refine Ke.y 5 rfl (fun _ _ _ h => h) ?_
        try simp only [Act.put, pu1, pu2, pu3, pu4, pu5, pu6]
        refine Ke.y 6 rfl (fun _ _ _ h => h) ?_
        try simp only [Act.put, pu1, pu2, pu3, pu4, pu5, pu6]
        refine Ke.y 7 rfl (fun _ _ _ h => h) ?_
        try simp only [Act.put, pu1, pu2, pu3, pu4, pu5, pu6]
        refine Ke.y 8 rfl (fun _ _ _ h => h) ?_
        try simp only [Act.put, pu1, pu2, pu3, pu4, pu5, pu6]
        refine Ke.y 9 rfl (fun _ _ _ h => h) ?_
        try simp only [Act.put, pu1, pu2, pu3, pu4, pu5, pu6]
        refine Ke.y 10 rfl (fun _ _ _ h => h) ?_
        try simp only [Act.put, pu1, pu2, pu3, pu4, pu5, pu6]
        refine Ke.z 11 rfl (fun K hK => ?_)
        go_simp
        refine (q1 W5 B5.out).mono ?_
        rintro e W6 ⟨rfl, b6⟩
        refine hK.out _ _ ⟨(keepR (W := W5) hHeld.1 b6), (keepR (W := W5) hHeld.2.1 b6), (keepR (W := W5) hHeld.2.2.1 b6), (keepR (W := W5) hHeld.2.2.2.1 b6), (keepR (W := W5) hHeld.2.2.2.2 b6)⟩ (fun hHeld => ?_)
        clear hK K
        try simp only [Act.put, pu1, pu2, pu3, pu4, pu5, pu6]
        have z6 := b6.size
        have B6 := Ke.b B5 b6
        refine Ke.y 12 rfl (fun _ _ _ h => h) ?_
        try simp only [Act.put, pu1, pu2, pu3, pu4, pu5, pu6]
        refine wpAnyH_done (by kernel_rfl) ?_ _
        clear hHeld
        have bw : Below W4.heap.size W4 W6 := b5.trans (b6.mono b5.size)
        have D6 := Ke.b D4 bw
        have HO6 : Hid (Od W6 W2.heap.size W6.heap.size _ R) := Od.up HO.out bw
        clear HO bw D4 m0 m1 m2 m3 m4 q1
        obtain ⟨b_, off_, cap8, he, _, p0, p1, p2, p3, p4, p5, hsd⟩ := Se.at (HS1.out.later B2.out) HY.out
        simp only [Value.slice.injEq] at he
        obtain ⟨rfl, _, rfl⟩ := he
        have HSD : Hid (Sd W2 y.u y.l) := hsd
        obtain ⟨_, aoU, capU, hu, hcapU, _, _⟩ := hsd
        rw [hu] at p5
        obtain ⟨E, hE⟩ : ∃ E, entry5 y.n y.l = E := ⟨_, rfl⟩
        have q2 := entryok_spec W6 y.n y.u y.l (HSD.out.later D6.out) (by omega) hya hyb hyd
        rw [hu, hE] at q2
        have HE5 : Hid (entry5 y.n y.l = E) := hE
        have HU : Hid (y.u = .slice aoU y.l.length capU) := hu
        clear hE hu
        have s0 := keepR p0 D6.out
        have s1 := keepR p1 D6.out
        have s2 := keepR p2 D6.out
        have s3 := keepR p3 D6.out
        have s4 := keepR p4 D6.out
        have s5 := keepR p5 D6.out
        go_wp2_with fail
        refine q2.mono ?_
        rintro e W7 ⟨rfl, b7⟩
        clear q2 s0 s1 s2 s3 s4 s5
        have B7 := Ke.b B6 b7
        have D7 := Ke.b D6 b7
        have HO7 : Hid (Od W7 W2.heap.size W7.heap.size _ R) := Od.up HO6.out b7
        clear HO6 D6 b7
        cases E
        · have HF2 : Hid (reach16 l s = ([], 2)) := HK.out.symm.trans (w_bad HX.out HF.out HE5.out)
          go_wp2
          go_ret2
          exact ⟨_, by rw [HF2.out]; rfl, by rw [HF2.out]; exact none_od o2.out z2 D7.out, B7.out⟩
        · go_wp2_with fail
          go_loopw [7, 10] (fun rv mv wr => ∃ (i : Nat) (T : List Nd), mv = .int .i64 (i : Int) ∧ i ≤ y.l.length ∧ R.length ≤ T.length ∧ T.length ≤ 60 ∧ Hid (add16 T (y.l.drop i) = add16 R y.l) ∧ Hid (Od wr W2.heap.size wr.heap.size rv T) ∧ Hid (Below W2.heap.size W2 wr)) (fun _ mv _ => y.l.length - (intOf mv).toNat)
          case atStart => exact ⟨0, R, rfl, Nat.zero_le _, Nat.le_refl _, hR, rfl, HO7, D7⟩
          case round =>
            obtain ⟨i, T, rfl, hiy, hRT, hT, HA, HT, D8⟩ := hrel
            obtain ⟨W8, hW8⟩ : ∃ X, X = wr := ⟨_, rfl⟩
            subst hW8
            clear HO7 D7 B7 B6 B4
            have B8 : Hid (Below w.heap.size w W8) := B2.out.trans (D8.out.mono B2.out.size)
            obtain ⟨aoT, capT, hrv⟩ := on_slice5 HT.out
            subst hrv
            have s5 := keepR p5 D8.out
            by_cases hit : i < y.l.length
            · have hit2 : (i : Int) < (y.l.length : Int) := by omega
              obtain ⟨n, hn⟩ : ∃ n, y.l[i]? = some n := ⟨y.l[i], by simp [hit]⟩
              obtain ⟨b3, off3, cap7, he, _, t0, t1, t2, t3, t4⟩ := Sd.at HSD.out hn
              rw [HU.out] at he
              simp only [Value.slice.injEq] at he
              obtain ⟨rfl, _, rfl⟩ := he
              have HNN : Hid (y.l[i]? = some n) := hn
              clear hn
              have u0 := keepR t0 D8.out
              have u1 := keepR t1 D8.out
              have u2 := keepR t2 D8.out
              have u3 := keepR t3 D8.out
              have u4 := keepR t4 D8.out
              obtain ⟨V, hV⟩ : ∃ V, has16 T n = V := ⟨_, rfl⟩
              have q3 := has_spec W8 _ T n HT.out.sd (by omega)
              rw [hV] at q3
              have HV : Hid (has16 T n = V) := hV
              clear hV
              go_wp2_with fail
              refine q3.mono ?_
              rintro e W9 ⟨rfl, b9⟩
              clear q3
              have D9 := Ke.b D8 b9
              have B9 := Ke.b B8 b9
              have HT9 : Hid (Od W9 W2.heap.size W9.heap.size _ T) := Od.up HT.out b9
              have hT60 : ¬ (60 : Int) < (T.length : Int) := by omega
              clear HT D8 b9 B8 s5 u0 u1 u2 u3 u4
              cases V
              · have u0 := keepR t0 D9.out
                have u1 := keepR t1 D9.out
                have u2 := keepR t2 D9.out
                have u3 := keepR t3 D9.out
                have u4 := keepR t4 D9.out
                have s5 := keepR p5 D9.out
                have k1 : T.length + 1 ≤ maxLen := by unfold maxLen; omega
                have k2 : (T.length + 1) * 56 ≤ 140737488355328 := by omega
                have k3 : ∀ ob, W2.heap.size ≤ (W9.alloc ob).heap.size := fun ob => by have := D9.out.size; simp; omega
                have O2 : ∀ ob, On 5 (W9.alloc ob) W2.heap.size (W9.alloc ob).heap.size 38 _ T.length (nds T) := fun ob => On.alloc HT9.out ob
                go_wp2_with (at_builtin; go_must (refine wpl_appn 5 (by omega) _ rfl (.tmp 69) (.tmp 78) 25 rfl 38 i0 (.agg #[.string ⟨#[]⟩, .int .i64 0, .int .i64 0, .int .i64 0, .string ⟨#[]⟩]) 56 Tryz.underlying25 hi hz0 hz1 hz2 rfl W2.heap.size _ T.length (nds T) rfl (O2 _) _ rfl 1 n.cs (Sn.one 5 W9 (nc n) 38 rfl) (cs_oneN n) k1 k2 (k3 _) ?_))
                intro v0 W0 o0 b0 _
                have HO0 : Hid (Od W0 W2.heap.size W0.heap.size v0 (T ++ [n])) := Od.snoc o0
                have D0 : Hid (Below W2.heap.size W2 W0) := (D9.out.alloc D9.out.size _).trans b0
                have B0 : Hid (Below w.heap.size w W0) := B2.out.trans (D0.out.mono B2.out.size)
                clear O2 b0 u0 u1 u2 u3 u4 s5
                obtain ⟨ao0, cap0, hrv⟩ := on_slice5 o0
                subst hrv
                clear o0
                by_cases h60 : T.length + 1 ≤ 60
                · have h61 : ¬ (60 : Int) < ((T.length + 1 : Nat) : Int) := by omega
                  go_wp2
                  go_roundw
                  case rel => exact ⟨i + 1, T ++ [n], by go_num, by omega, by simp; omega, by simp; omega, (add_new HNN.out h60 HV.out).symm.trans HA.out, HO0, D0⟩
                  case measure => simp [intOf]; omega
                · have h61 : (60 : Int) < ((T.length + 1 : Nat) : Int) := by omega
                  have HF2 : Hid (reach16 l s = ([], 3)) := HK.out.symm.trans (w_many HX.out HF.out HE5.out (HA.out.symm.trans (add_many HNN.out h60 HV.out)))
                  go_wp2
                  go_ret2
                  exact ⟨_, by rw [HF2.out]; rfl, by rw [HF2.out]; exact none_od o2.out z2 D0.out, B0.out⟩
              · go_wp2
                go_roundw
                case rel => exact ⟨i + 1, T, by go_num, by omega, hRT, hT, (add_has HNN.out hT HV.out).symm.trans HA.out, HT9, D9⟩
                case measure => simp [intOf]; omega
            · have hit2 : ¬ (i : Int) < (y.l.length : Int) := by omega
              have HAA : Hid (add16 R y.l = some T) := by have h9 := HA.out; rw [List.drop_of_length_le (by omega)] at h9; exact h9.symm
              go_wp2
              go_roundw
              case rel => exact ⟨k + 1, T, by go_num, by omega, hT, by show _ = _; rw [show 61 - (k + 1) = 60 - k by omega, ← w_go HX.out HF.out HE5.out HAA.out]; exact HK.out, HT, D8⟩
              case measure => simp [intOf]; omega
    · have hlt2 : ¬ (k : Int) < (R.length : Int) := by omega
      have HF : Hid (reach16 l s = (R, 0)) := by have h9 := HK.out; rw [show 61 - k = (60 - k) + 1 by omega, w_end (by omega)] at h9; exact h9.symm
      go_wp2
      go_ret2
      exact ⟨_, by rw [HF.out]; rfl, by rw [HF.out]; exact On.mono HO.out B2.out.size (Nat.le_refl _), B4.out⟩

end Go.Proofs.YtlhmemnaiobgkaaGreatDoor.Se
