/- Texts in one: Cln, HfA, CrA, Fe4, Fe5, Fg1, Fh1, Se1, Se2. -/
import Derived.Test.YtbopliahafkecaaGreatDoorPk19
import Derived.Test.YtbopliahafkecaaGreatDoorPk6
import Derived.Test.YtbopliahafkecaaGreatDoorPk21
import Derived.Test.YtbopliahafkecaaGreatDoorPk5
import Derived.Test.YtbopliahafkecaaGreatDoorPk24
import Derived.Test.YtbopliahafkecaaGreatDoorPk13
import Derived.Test.YtbopliahafkecaaGreatDoorPk23
import Derived.Test.YtbopliahafkecaaGreatDoorPk22
import Derived.WalkKit
import Derived.Lib.Strings
import Derived.Lib.Walk
import Derived.Lib.BufferWrite
import Derived.Lib.UnsafeStr
import Derived.Lib.Hide
import Derived.Laws.MakeOwn
/- The library's strings.Clone: a copy of a text. -/
namespace Go.Proofs.YtbopliahafkecaaGreatDoor.Cln
open Go.RowKit Go.Proofs.YtbopliahafkecaaGreatDoor.Mem Go.Proofs.YtbopliahafkecaaGreatDoor.Laws Go.Proofs.YtbopliahafkecaaGreatDoor.Bytes Go.Proofs.YtbopliahafkecaaGreatDoor.Sha
set_option linter.unusedVariables false
set_option linter.unusedSimpArgs false

set_option maxHeartbeats 4000000 in
set_option maxRecDepth 100000 in
theorem clone_lite (w : World) (s : ByteArray) (hlim : s.size ≤ 1000000000000) :
    Calls Tryz.prog 116 #[.string s] w fun e w' => e = .returned (.string s) ∧ Below w.heap.size w w' := by
  by_cases h0 : s.size = 0
  · have hs : s = ⟨#[]⟩ := by
      apply ByteArray.ext
      exact Array.eq_empty_of_size_eq_zero h0
    subst hs
    go_enter Tryz.func116, Tryz.ntmps116
    go_wp2
    go_ret
    exact ⟨rfl, Below.refl _ _⟩
  · obtain ⟨i0, hi, hz0, hz1, hz2⟩ := info_parts info5
    have hinfo : (Tryz.prog.info? 5).map (·.size) = some 1 := by rw [hi]; simp [hz1]
    have hco : Tryz.prog.cellsOf 5 = 1 := by simp [Program.cellsOf, hi, hz1]
    obtain ⟨M, hM⟩ : ∃ M, M = madeCells (Value.int .u8 0).cells (((s.size : Nat) : Int).toNat * i0.size) := ⟨_, rfl⟩
    have hMs : M.size = s.size := by rw [hM, size_madeCells, hz1]; simp
    have hmk : ∀ W : World, (Instr.makeSlice 22 (.int .i64 (s.size : Int)) (.int .i64 (s.size : Int))).run Tryz.prog W = .ok (.slice (some ⟨W.heap.size, 0, none⟩) s.size s.size) (W.alloc (.cells M 5)) := fun W => by
      have h := run_make (P := Tryz.prog) W 22 5 i0 (.int .u8 0) Tryz.underlying22 hi hz0 .i64 .i64 (s.size : Int) (s.size : Int) (by omega) (by omega) (by rw [hz2]; omega) (by omega)
      rw [← hM] at h
      simpa using h
    clear hM
    have hcp := Lib.run_copy_row_string (P := Tryz.prog) (w.alloc (.cells M 5)) 22 9 3 5 w.heap.size 0 s.size s.size s M 5 Tryz.underlying22 hinfo (heap_alloc_new w _) (Nat.le_refl _) (by omega)
    obtain ⟨Y, hY⟩ : ∃ Y, Y = (M.toList.take 0 ++ Lib.byteCells s.data.toList ++ M.toList.drop (0 + s.size)).toArray := ⟨_, rfl⟩
    rw [← hY] at hcp
    have hYl : Y.toList = Lib.byteCells s.data.toList := by
      rw [hY, List.toList_toArray, List.take_zero, List.nil_append, List.drop_of_length_le (by rw [Array.length_toList]; omega), List.append_nil]
    have hYs : Y.size = s.size := by rw [← Array.length_toList, hYl, Lib.byteCells_length, ← Lib.size_eq]
    have hgY : ((w.alloc (.cells M 5)).setRow w.heap.size Y).heap[w.heap.size]? = some (.cells Y 5 (0, 0)) := setRow_heap _ _ M _ 5 (0, 0) (heap_alloc_new w _)
    have hne : s.data.toList ≠ [] := fun e => h0 (by rw [Lib.size_eq, e]; rfl)
    have hUS := Lib.run_unsafeString_row (P := Tryz.prog) ((w.alloc (.cells M 5)).setRow w.heap.size Y) 111 3 9 5 Tryz.underlying111 hco w.heap.size Y.size (by unfold World.shape?; rw [hgY]) s.data.toList hne (by rw [← Lib.size_eq]; omega) (by rw [← Lib.size_eq]; omega)
      (fun j x hx => Lib.cells_of_row hgY Y.size j _ (by rw [List.take_of_length_le (by rw [Array.length_toList]; exact Nat.le_refl _), hYl]; simp [Lib.byteCells, hx]))
    rw [← Lib.size_eq] at hUS
    clear hY
    go_enter Tryz.func116, Tryz.ntmps116
    go_wp2
    go_ret
    have hb1 : Below w.heap.size w (w.alloc (.cells M 5)) := (Below.refl _ w).alloc (Nat.le_refl _) _
    have hb2 : Below w.heap.size (w.alloc (.cells M 5)) ((w.alloc (.cells M 5)).setRow w.heap.size Y) := ⟨rfl, rfl, rfl, by simp, fun k hk => setRow_other _ _ _ _ (by omega)⟩
    exact ⟨rfl, Lib.below_freeze (hb1.trans hb2) (p := ⟨w.heap.size, 0, none⟩) (Nat.le_refl _) _⟩

set_option maxRecDepth 100000 in
theorem clone_impl (w : World) (s : ByteArray) (hlim : s.size ≤ 1000000000000) :
    Calls Tryz.prog 94 #[.string s] w fun e w' => e = .returned (.string s) ∧ Below w.heap.size w w' := by
  have q := clone_lite w s hlim
  go_enter Tryz.func94, Tryz.ntmps94
  go_wp2_with (go_at_call 116; refine q.mono ?_; rintro e w' ⟨rfl, b1⟩)
  go_ret
  exact ⟨rfl, b1⟩

end Go.Proofs.YtbopliahafkecaaGreatDoor.Cln

/- Chapter 10, the landed code: whether a head is right; how two heads stand to each other; a copy of a head. -/
namespace Go.Proofs.YtbopliahafkecaaGreatDoor.He
open Go.RowKit Go.Proofs.YtbopliahafkecaaGreatDoor.Mem Go.Proofs.YtbopliahafkecaaGreatDoor.Laws Go.Proofs.YtbopliahafkecaaGreatDoor.Bytes Go.Proofs.YtbopliahafkecaaGreatDoor.Sha Go.Proofs.YtbopliahafkecaaGreatDoor.Tr
set_option linter.unusedVariables false
set_option linter.unusedSimpArgs false

set_option maxRecDepth 1000000 in
set_option maxHeartbeats 1000000 in
theorem ok_impl (w : World) (h : Hd) (hz : h.r.size ≤ 1000000000000) : Calls Tryz.prog 23 #[.agg #[.int .i64 h.n, .string h.r]] w fun e w' => e = .returned (.bool (okH h)) ∧ Below w.heap.size w w' := by
  have HB : Hid (Below w.heap.size w (w.alloc (.cells #[.int .i64 h.n, .string h.r] 25))) := (Below.refl _ _).alloc (Nat.le_refl _) _
  by_cases h0 : 0 ≤ h.n
  · by_cases h2 : h.n ≤ 200
    · obtain ⟨t, ht⟩ : ∃ t, ((h.r.size : Int) == 32) = t := ⟨_, rfl⟩
      have HN : Hid (okH h = t) := by
        show _ = _
        rw [← ht]
        unfold okH
        by_cases h32 : h.r.size = 32
        · rw [decide_eq_true ⟨⟨h0, h2⟩, h32⟩, h32]; rfl
        · rw [decide_eq_false (fun c => h32 c.2)]
          exact (beq_eq_false_iff_ne.2 (by omega)).symm
      go_enter Tryz.func23, Tryz.ntmps23
      go_wp2
      go_ret
      exact ⟨by rw [HN.out]; rfl, HB.out⟩
    · have HN : Hid (okH h = false) := by show _ = _; unfold okH; rw [decide_eq_false (fun c => h2 c.1.2)]
      go_enter Tryz.func23, Tryz.ntmps23
      go_wp2
      go_ret
      exact ⟨by rw [HN.out]; rfl, HB.out⟩
  · have HN : Hid (okH h = false) := by show _ = _; unfold okH; rw [decide_eq_false (fun c => h0 c.1.1)]
    go_enter Tryz.func23, Tryz.ntmps23
    go_wp2
    go_ret
    exact ⟨by rw [HN.out]; rfl, HB.out⟩

/-- how two heads stand to each other: 1 the same, 2 of one size, 0 else -/
def pk (a b : Hd) : Int := if eqH a b = true then 1 else if a.n = b.n then 2 else 0

end Go.Proofs.YtbopliahafkecaaGreatDoor.He

/- A cursor of draws behind other steps, by short names; no chapter is named here. -/
namespace Go.Proofs.YtbopliahafkecaaGreatDoor.Draw
open Go.RowKit Go.Proofs.YtbopliahafkecaaGreatDoor.Mem Go.Proofs.YtbopliahafkecaaGreatDoor.Laws Go.Proofs.YtbopliahafkecaaGreatDoor.Bytes
set_option linter.unusedVariables false
set_option linter.unusedSimpArgs false

theorem Cur.keep {w w' : World} {g : Nat} {vb : Value} {n : Nat} (h : Cur w g vb n) (b : Below w.heap.size w w') : Cur w' g vb n := h.later b h.lt
theorem Cur.gro {w w' : World} {g : Nat} {vb : Value} {n : Nat} {r : Option Nat} (h : Cur w g vb n) (gr : w.grownBy w' r) (hne : r ≠ some g) : Cur w' g vb n := by
  obtain ⟨i, x, hr, hi⟩ := h
  exact ⟨i, x, rowGro hr gr hne, hi⟩
theorem drawnRow {W0 w w' : World} {g k : Nat} {vb : Value} {xs : List Int} {o : Obj} (h : w.heap[k]? = some o) (d : Drawn W0 w g vb xs w') (hk : k ≠ g) : w'.heap[k]? = some o :=
  (d.apart.block k (Array.getElem?_eq_some_iff.1 h).1 (by omega)).trans h
theorem Kd.r {W0 W W' : World} {g k : Nat} {vb : Value} {xs : List Int} {o : Obj} (h : Hid (W.heap[k]? = some o)) (d : Drawn W0 W g vb xs W') (hk : k ≠ g := by omega) : Hid (W'.heap[k]? = some o) := drawnRow h.out d hk
theorem Kd.o {W0 W W' : World} {g lo hi : Nat} {vb : Value} {xs : List Int} {e : TypeId} {v : Value} {cs : List Value} (h : Hid (Own W lo hi e v cs)) (d : Drawn W0 W g vb xs W') (hg : g < lo ∨ hi ≤ g := by omega) (hh : hi ≤ W.heap.size := by omega) : Hid (Own W' lo hi e v cs) := Own.drawn h.out d hg hh
theorem Kd.B {lo hi : Nat} {a w w' : World} (h : Hid (Apart lo hi a w)) (b : Below w.heap.size w w') : Hid (Apart lo hi a w') := h.out.grow b
theorem Kd.D {W0 a w w' : World} {g : Nat} {vb : Value} {xs : List Int} (h : Hid (Apart g (g + 1) a w)) (d : Drawn W0 w g vb xs w') : Hid (Apart g (g + 1) a w') := h.out.trans d.apart
theorem Kd.c {w w' : World} {g : Nat} {vb : Value} {n : Nat} (h : Hid (Cur w g vb n)) (b : Below w.heap.size w w') : Hid (Cur w' g vb n) := h.out.keep b
theorem Kd.e {W0 w w' : World} {g : Nat} {vb : Value} {xs : List Int} (d : Drawn W0 w g vb xs w') : Hid (Cur w' g vb xs.length) := d.cur
theorem Kd.f {W0 w w' : World} {g : Nat} {vb : Value} {xs : List Int} (d : Drawn W0 w g vb xs w') : Hid (Below W0.heap.size W0 w') := d.below
/-- cells that a region holds, behind a draw -/
theorem Kd.k {W0 W W' : World} {g k : Nat} {vb : Value} {xs : List Int} {cs : Array Value} (h : ∀ j, W.cell? ⟨k, j, none⟩ = cs[j]?) (d : Drawn W0 W g vb xs W') (hk : k ≠ g) (hn : ∃ x, cs[0]? = some x := by exact ⟨_, rfl⟩) : ∀ j, W'.cell? ⟨k, j, none⟩ = cs[j]? := by
  intro j
  obtain ⟨x, hx⟩ := hn
  have hl := World.block_lt_of_cell? W ⟨k, 0, none⟩ ((h 0).trans hx)
  have e := d.apart.block k hl (by omega)
  have e2 : W'.cell? ⟨k, j, none⟩ = W.cell? ⟨k, j, none⟩ := by simp [World.cell?, e]
  rw [e2]
  exact h j

theorem Apart.gro5 {lo hi : Nat} {a w w' : World} {r : Option Nat} (h : Apart lo hi a w) (g : w.grownBy w' r) (hr : ∀ k, r = some k → a.heap.size ≤ k) : Apart lo hi a w' :=
  h.on (belowGro (Below.refl a.heap.size w) g h.size hr)

end Go.Proofs.YtbopliahafkecaaGreatDoor.Draw

/- Chapter 15, the specification's side: the versions of a path. -/
namespace Go.Proofs.YtbopliahafkecaaGreatDoor.Fe
open Go.RowKit Go.Proofs.YtbopliahafkecaaGreatDoor.Mem Go.Proofs.YtbopliahafkecaaGreatDoor.Laws Go.Proofs.YtbopliahafkecaaGreatDoor.Ver Go.Proofs.YtbopliahafkecaaGreatDoor.Ent
set_option linter.unusedVariables false
set_option linter.unusedSimpArgs false

def vcs : List Nd → List Value
  | [] => []
  | n :: r => .int .i64 n.a :: .int .i64 n.b :: .int .i64 n.c :: .string n.pre :: vcs r
theorem vcs_len : ∀ l : List Nd, (vcs l).length = l.length * 4 := by
  intro l
  induction l with
  | nil => rfl
  | cons q r ih => simp [vcs, ih]; omega
theorem vcs_app (l m : List Nd) : vcs (l ++ m) = vcs l ++ vcs m := by
  induction l with
  | nil => rfl
  | cons q r ih => simp [vcs, ih]
def vc (n : Nd) : Array Value := #[.int .i64 n.a, .int .i64 n.b, .int .i64 n.c, .string n.pre]
theorem vc_one (n : Nd) : ∀ u ∈ (vc n).toList, u.oneCell' = true := by
  intro u hu
  simp only [vc, List.mem_cons, List.not_mem_nil, or_false] at hu
  rcases hu with rfl | rfl | rfl | rfl <;> rfl
/-- v owns the versions of these -/
def Ow (w : World) (lo hi : Nat) (v : Value) (l : List Nd) : Prop := On 4 w lo hi 45 v l.length (vcs l)
theorem Ow.snoc {w : World} {lo hi : Nat} {v : Value} {l : List Nd} {n : Nd} (o : On 4 w lo hi 45 v (l.length + 1) (vcs l ++ (vc n).toList)) : Ow w lo hi v (l ++ [n]) := by
  unfold Ow
  rw [vcs_app, List.length_append]
  exact o
theorem infoVe : (Tryz.prog.info? 45).map (fun i => (i.zero, i.size, i.bytes)) = some (some (.agg #[.int .i64 0, .int .i64 0, .int .i64 0, .string ⟨#[]⟩]), 4, 40) := by kernel_rfl

end Go.Proofs.YtbopliahafkecaaGreatDoor.Fe

/- Chapter 15, the specification's side: an entry's copy, an entry that is found. -/
namespace Go.Proofs.YtbopliahafkecaaGreatDoor.Fe
open Go.RowKit Go.Proofs.YtbopliahafkecaaGreatDoor.Mem Go.Proofs.YtbopliahafkecaaGreatDoor.Laws Go.Proofs.YtbopliahafkecaaGreatDoor.Ver Go.Proofs.YtbopliahafkecaaGreatDoor.Ent
set_option linter.unusedVariables false
set_option linter.unusedSimpArgs false

/-- needs that are owned, and end ahead of what is new -/
def Odt (w : World) (lo hi : Nat) (v : Value) (l : List Nd) : Prop := Od w lo hi v l ∧ hi ≤ w.heap.size
theorem Odt.later {w w' : World} {lo hi : Nat} {v : Value} {l : List Nd} (h : Odt w lo hi v l) (b : Below w.heap.size w w') : Odt w' lo hi v l := ⟨On.later h.1 b h.2, Nat.le_trans h.2 b.size⟩
theorem Odt.gro {w w' : World} {lo hi : Nat} {v : Value} {l : List Nd} {r : Option Nat} (h : Odt w lo hi v l) (g : w.grownBy w' r) (hr : ∀ k, r = some k → k < lo ∨ hi ≤ k) : Odt w' lo hi v l :=
  ⟨On.keep h.1 fun k h1 h2 => g.block k (by have := h.2; omega) (fun e => by have := hr k e.symm; omega), Nat.le_trans h.2 g.size⟩
theorem Odt.wide {w : World} {lo hi lo' : Nat} {v : Value} {l : List Nd} (h : Odt w lo hi v l) (h1 : lo' ≤ lo) : Od w lo' w.heap.size v l := On.mono h.1 h1 h.2
/-- what is found -/
def none15 : Nd := ⟨⟨#[]⟩, 0, 0, 0, ⟨#[]⟩⟩
def res15 (q : Nd) (l : List Ev) : Nd × List Nd × Bool := match l.find? (fun x => isN q x.n) with
  | none => (none15, [], false)
  | some x => (x.n, x.l, true)
theorem at15_find (q : Nd) : ∀ (l : List Ev) (j : Nat), (at15 q (l.map Ev.n) j = -1 ∧ l.find? (fun x => isN q x.n) = none) ∨ (∃ (k : Nat) (x : Ev), at15 q (l.map Ev.n) j = ((j + k : Nat) : Int) ∧ l[k]? = some x ∧ l.find? (fun x => isN q x.n) = some x) := by
  intro l
  induction l with
  | nil => intro j; exact .inl ⟨rfl, rfl⟩
  | cons y r ih =>
    intro j
    rw [List.map_cons, at15, List.find?_cons]
    cases hy : isN q y.n with
    | true => exact .inr ⟨0, y, by simp, rfl, rfl⟩
    | false =>
      simp only [Bool.false_eq_true, if_false]
      rcases ih (j + 1) with ⟨h1, h2⟩ | ⟨k, x, h1, h2, h3⟩
      · exact .inl ⟨h1, h2⟩
      · exact .inr ⟨k + 1, x, by rw [h1]; congr 1; omega, by simpa using h2, h3⟩

end Go.Proofs.YtbopliahafkecaaGreatDoor.Fe

/- Chapter 15, the laws' helpers: entries in a slice that a call owns; lists of entries, turned. -/
namespace Go.Proofs.YtbopliahafkecaaGreatDoor.Fe
open Go.RowKit Go.Proofs.YtbopliahafkecaaGreatDoor.Mem Go.Proofs.YtbopliahafkecaaGreatDoor.Laws Go.Proofs.YtbopliahafkecaaGreatDoor.Ver Go.Proofs.YtbopliahafkecaaGreatDoor.Ent
set_option linter.unusedVariables false
set_option linter.unusedSimpArgs false

theorem On.keep1 {n m : Nat} {w w' : World} {lo hi : Nat} {e : TypeId} {v : Value} {cs : List Value} (h : On n w lo hi e v m cs) (hk : ∀ g, v.ownBlock = some g → w'.heap[g]? = w.heap[g]?) : On n w' lo hi e v m cs := by
  obtain ⟨⟨h1, h2⟩, h3⟩ := h
  refine ⟨⟨h1, ?_⟩, h3⟩
  rcases h2 with h2 | ⟨g, cap, cur, rfl, hb, hg, r⟩
  · exact .inl h2
  · exact .inr ⟨g, cap, cur, rfl, hb, by rw [hk g rfl]; exact hg, r⟩
theorem On.neRow {n m : Nat} {w : World} {lo hi g : Nat} {e t : TypeId} {v : Value} {cs : List Value} {cs' : Array Value} {fr : Nat × Nat} (h : On n w lo hi e v m cs) (hr : w.heap[g]? = some (.cells cs' t fr)) (ht : t ≠ e) : v.ownBlock ≠ some g := by
  intro hv
  obtain ⟨⟨h1, h2⟩, h3⟩ := h
  rcases h2 with ⟨rfl, _⟩ | ⟨g', cap, cur, rfl, hb, hg, r⟩
  · simp [Value.ownBlock] at hv
  · simp [Value.ownBlock] at hv
    subst hv
    rw [hg] at hr
    simp at hr
    exact ht hr.2.1.symm
theorem On.lt {n m : Nat} {w : World} {lo hi : Nat} {e : TypeId} {v : Value} {cs : List Value} (h : On n w lo hi e v m cs) {g : Nat} (hg : v.ownBlock = some g) : lo ≤ g ∧ g < hi ∧ g < w.heap.size := ⟨(h.1.lt g hg).1, h.2 g hg, (h.1.lt g hg).2⟩
/-- just its own block -/
theorem On.narrow {n m : Nat} {w : World} {lo hi : Nat} {e : TypeId} {v : Value} {cs : List Value} (h : On n w lo hi e v m cs) {g : Nat} (hg : v.ownBlock = some g) : On n w g (g + 1) e v m cs := by
  obtain ⟨⟨h1, h2⟩, h3⟩ := h
  refine ⟨⟨h1, ?_⟩, fun k hk => by rw [hg] at hk; injection hk; omega⟩
  rcases h2 with h2 | ⟨g', cap, cur, rfl, hb, r⟩
  · exact .inl h2
  · simp [Value.ownBlock] at hg
    subst hg
    exact .inr ⟨g', cap, cur, rfl, Nat.le_refl _, r⟩

/-- each has needs that are owned, and no two the same -/
def Ins (w : World) (lo hi : Nat) (T : List Ev) : Prop := (∀ x ∈ T, Od w lo hi x.u x.l) ∧ T.Pairwise fun x y => ∀ k, x.u.ownBlock = some k → y.u.ownBlock ≠ some k
theorem Ins.nil (w : World) (lo hi : Nat) : Ins w lo hi [] := ⟨fun x hx => (by cases hx), List.Pairwise.nil⟩
theorem Ins.keep {w w' : World} {lo hi : Nat} {T : List Ev} (h : Ins w lo hi T) (hk : ∀ x ∈ T, ∀ g, x.u.ownBlock = some g → w'.heap[g]? = w.heap[g]?) : Ins w' lo hi T := ⟨fun x hx => On.keep1 (h.1 x hx) (hk x hx), h.2⟩
theorem Ins.later {w w' : World} {lo hi B : Nat} {T : List Ev} (h : Ins w lo hi T) (b : Below B w w') (hh : hi ≤ B) : Ins w' lo hi T :=
  h.keep fun x hx g hg => b.block g (by have := (On.lt (h.1 x hx) hg).2.1; omega)
theorem Ins.mono {w : World} {lo hi lo' hi' : Nat} {T : List Ev} (h : Ins w lo hi T) (h1 : lo' ≤ lo) (h2 : hi ≤ hi') : Ins w lo' hi' T := ⟨fun x hx => On.mono (h.1 x hx) h1 h2, h.2⟩
theorem Ins.snoc {w : World} {lo hi lo2 hi2 : Nat} {T : List Ev} {x : Ev} (h : Ins w lo hi T) (hx : Od w lo2 hi2 x.u x.l) (h1 : hi ≤ lo2) (h2 : lo ≤ lo2) (h3 : hi ≤ hi2) : Ins w lo hi2 (T ++ [x]) := by
  refine ⟨fun y hy => ?_, ?_⟩
  · rcases List.mem_append.1 hy with h9 | h9
    · exact On.mono (h.1 y h9) (Nat.le_refl _) h3
    · rw [List.mem_singleton.1 h9]; exact On.mono hx h2 (Nat.le_refl _)
  · refine List.pairwise_append.2 ⟨h.2, List.pairwise_singleton _ _, fun y hy z hz k hk hk2 => ?_⟩
    rw [List.mem_singleton.1 hz] at hk2
    have a1 := (On.lt (h.1 y hy) hk).2.1
    have a2 := (On.lt hx hk2).1
    omega
theorem ecs_snoc (T : List Ev) (x : Ev) : ecs (T ++ [x]) = ecs T ++ (ec x.n x.u).toList := by rw [ecs_app]; rfl
/-- v owns these entries, and their needs -/
def Oes (w : World) (lo hi : Nat) (v : Value) (T : List Ev) : Prop := On 6 w lo hi 160 v T.length (ecs T) ∧ Ins w lo hi T
theorem Oes.se {w : World} {lo hi : Nat} {v : Value} {T : List Ev} (h : Oes w lo hi v T) : Se w v T := ⟨On.sn h.1, fun x hx => (h.2.1 x hx).sd⟩
theorem Oes.later {w w' : World} {lo hi B : Nat} {v : Value} {T : List Ev} (h : Oes w lo hi v T) (b : Below B w w') (hh : hi ≤ B) : Oes w' lo hi v T := ⟨On.later h.1 b hh, h.2.later b hh⟩
theorem Oes.apart {w w' : World} {lo hi l2 h2 : Nat} {v : Value} {T : List Ev} (h : Oes w lo hi v T) (a : Apart l2 h2 w w') (hd : hi ≤ l2 ∨ h2 ≤ lo) (hs : hi ≤ w.heap.size) : Oes w' lo hi v T :=
  ⟨On.apart h.1 a hd hs, h.2.keep fun x hx g hg => a.block g (by have := (On.lt (h.2.1 x hx) hg).2.2; omega) (by have := On.lt (h.2.1 x hx) hg; omega)⟩
theorem Oes.mono {w : World} {lo hi lo' hi' : Nat} {v : Value} {T : List Ev} (h : Oes w lo hi v T) (h1 : lo' ≤ lo) (h2 : hi ≤ hi') : Oes w lo' hi' v T := ⟨On.mono h.1 h1 h2, h.2.mono h1 h2⟩
theorem Oes.slice {w : World} {lo hi : Nat} {v : Value} {T : List Ev} (h : Oes w lo hi v T) : ∃ ao cap, v = .slice ao T.length cap := On.slice h.1
/-- the same entries, wherever their needs lie -/
def key15 (x : Ev) : Nd × List Nd := (x.n, x.l)
def Alk (l T : List Ev) : Prop := T.map key15 = l.map key15
theorem Alk.len {l T : List Ev} (h : Alk l T) : T.length = l.length := by have := congrArg List.length h; simpa using this
theorem Alk.names {l T : List Ev} (h : Alk l T) : T.map Ev.n = l.map Ev.n := by have := congrArg (List.map Prod.fst) h; rw [List.map_map, List.map_map] at this; exact this
theorem Alk.get {l T : List Ev} (h : Alk l T) {k : Nat} {x y : Ev} (hx : l[k]? = some x) (hy : T[k]? = some y) : y.n = x.n ∧ y.l = x.l := by
  have := congrArg (fun s => s[k]?) h
  simp only [List.getElem?_map, hx, hy, Option.map_some, Option.some.injEq, key15, Prod.mk.injEq] at this
  exact this
theorem Alk.refl (l : List Ev) : Alk l l := rfl
theorem Alk.symm {l T : List Ev} (h : Alk l T) : Alk T l := Eq.symm h
theorem Alk.trans {l T S : List Ev} (h : Alk l T) (k : Alk T S) : Alk l S := Eq.trans k h
theorem Alk.all {l T : List Ev} (h : Alk l T) {p : Nd → List Nd → Prop} (hp : ∀ x ∈ l, p x.n x.l) : ∀ y ∈ T, p y.n y.l := by
  intro y hy
  have : key15 y ∈ l.map key15 := by rw [← h]; exact List.mem_map.2 ⟨y, hy, rfl⟩
  obtain ⟨x, hx, he⟩ := List.mem_map.1 this
  simp only [key15, Prod.mk.injEq] at he
  have := hp x hx
  rw [he.1, he.2] at this
  exact this

theorem infoEn : (Tryz.prog.info? 160).map (fun i => (i.zero, i.size, i.bytes)) = some (some (.agg #[.string ⟨#[]⟩, .int .i64 0, .int .i64 0, .int .i64 0, .string ⟨#[]⟩, .slice none 0 0]), 6, 80) := by kernel_rfl

end Go.Proofs.YtbopliahafkecaaGreatDoor.Fe

/- Chapter 15, draws: entries that need one another. -/
namespace Go.Proofs.YtbopliahafkecaaGreatDoor.Fe
open Go.RowKit Go.Proofs.YtbopliahafkecaaGreatDoor.Mem Go.Proofs.YtbopliahafkecaaGreatDoor.Laws Go.Proofs.YtbopliahafkecaaGreatDoor.Bytes Go.Proofs.YtbopliahafkecaaGreatDoor.Ver Go.Proofs.YtbopliahafkecaaGreatDoor.Ent Go.Proofs.YtbopliahafkecaaGreatDoor.Draw
set_option linter.unusedVariables false
set_option linter.unusedSimpArgs false

def cst : Bool → Nat
  | true => 0
  | false => 1
theorem stepA_grow (n : Nd) (s : List Nd × Bool) (x : Nd) : (stepA n s x).1.length + cst (stepA n s x).2 ≤ s.1.length + cst s.2 := by
  unfold stepA
  split
  · rename_i h
    simp only [Bool.and_eq_true, Bool.not_eq_true'] at h
    rw [h.1]
    simp [cst]
  · exact Nat.le_refl _
theorem stepB_grow (n : Nd) (s : List Nd × Bool) (x : Nd) : (stepB n s x).1.length + cst (stepB n s x).2 ≤ s.1.length + 1 + cst s.2 := by
  unfold stepB
  split
  · simp
  · omega
theorem step_grow (n : Nd) (s : List Nd × Bool) (x : Nd) : (stepN n s x).1.length + cst (stepN n s x).2 ≤ s.1.length + 1 + cst s.2 := by
  have h1 := stepA_grow n s x
  have h2 := stepB_grow n (stepA n s x) x
  unfold stepN
  omega
theorem fold_grow (n : Nd) : ∀ (l : List Nd) (s : List Nd × Bool), (l.foldl (stepN n) s).1.length + cst (l.foldl (stepN n) s).2 ≤ s.1.length + l.length + cst s.2 := by
  intro l
  induction l with
  | nil => intro s; simp
  | cons x r ih =>
    intro s
    have h1 := ih (stepN n s x)
    have h2 := step_grow n s x
    simp only [List.foldl_cons, List.length_cons]
    omega
theorem ins_grow (l : List Nd) (n : Nd) : (insN l n).length ≤ l.length + 1 := by
  have h := fold_grow n l ([], false)
  simp only [List.length_nil] at h
  unfold insN
  split
  · rename_i h9; rw [h9] at h; simp only [cst] at h; omega
  · rename_i h9
    rw [Bool.not_eq_true] at h9
    rw [h9] at h
    simp only [cst] at h
    rw [List.length_append]
    simp only [List.length_singleton]
    omega

/-- the sizes of what is drawn -/
def Dz (m : Nd) : Prop := m.path.size ≤ 60 ∧ m.pre.size ≤ 60
def Dx (x : Ev) : Prop := Dz x.n ∧ x.l.length ≤ 3 ∧ ∀ m ∈ x.l, Dz m
theorem Dz.ins {l : List Nd} {n : Nd} (h : ∀ m ∈ l, Dz m) (hn : Dz n) : ∀ m ∈ insN l n, Dz m := fun m hm => by
  rcases ins_mem hm with rfl | h9
  · exact hn
  · exact h m h9
/-- entries in a slice that is owned, with needs that are owned; all ends ahead of what is new -/
def Oet (w : World) (lo hi : Nat) (v : Value) (T : List Ev) : Prop := On 6 w lo hi 160 v T.length (ecs T) ∧ (∀ x ∈ T, Od w lo hi x.u x.l) ∧ hi ≤ w.heap.size
theorem Oet.se {w : World} {lo hi : Nat} {v : Value} {T : List Ev} (h : Oet w lo hi v T) : Se w v T := ⟨On.sn h.1, fun x hx => (h.2.1 x hx).sd⟩
theorem Oet.later {w w' : World} {lo hi : Nat} {v : Value} {T : List Ev} (h : Oet w lo hi v T) (b : Below w.heap.size w w') : Oet w' lo hi v T := ⟨On.later h.1 b h.2.2, fun x hx => On.later (h.2.1 x hx) b h.2.2, Nat.le_trans h.2.2 b.size⟩
theorem Oet.drawn {W0 w w' : World} {g lo hi : Nat} {vb : Value} {xs : List Int} {v : Value} {T : List Ev} (h : Oet w lo hi v T) (d : Drawn W0 w g vb xs w') (hg : g < lo ∨ hi ≤ g) : Oet w' lo hi v T :=
  ⟨On.apart h.1 d.apart (by omega) h.2.2, fun x hx => On.apart (h.2.1 x hx) d.apart (by omega) h.2.2, Nat.le_trans h.2.2 d.apart.size⟩
theorem Oet.gro {w w' : World} {lo hi : Nat} {v : Value} {T : List Ev} {r : Option Nat} (h : Oet w lo hi v T) (g : w.grownBy w' r) (hr : ∀ k, r = some k → k < lo ∨ hi ≤ k) : Oet w' lo hi v T :=
  ⟨On.keep h.1 fun k h1 h2 => g.block k (by have := h.2.2; omega) (fun e => by have := hr k e.symm; omega), fun x hx => On.keep (h.2.1 x hx) fun k h1 h2 => g.block k (by have := h.2.2; omega) (fun e => by have := hr k e.symm; omega), Nat.le_trans h.2.2 g.size⟩
theorem Oet.form {w : World} {lo hi : Nat} {v : Value} {T : List Ev} (h : Oet w lo hi v T) : ∃ ao cap, v = .slice ao T.length cap ∧ T.length ≤ cap := by
  obtain ⟨_, ao, cap, rfl, hc, _⟩ := On.sn h.1
  exact ⟨ao, cap, rfl, hc⟩
theorem Odt.drawn {W0 w w' : World} {g lo hi : Nat} {vb : Value} {xs : List Int} {v : Value} {l : List Nd} (h : Odt w lo hi v l) (d : Drawn W0 w g vb xs w') (hg : g < lo ∨ hi ≤ g) : Odt w' lo hi v l :=
  ⟨On.apart h.1 d.apart (by omega) h.2, Nat.le_trans h.2 d.apart.size⟩
theorem Oet.snoc {w w' : World} {lo hi lo2 hi2 : Nat} {v v' : Value} {T : List Ev} {x : Ev} (h : Oet w lo hi v T) (hd : Odt w lo2 hi2 x.u x.l) (gr : w.grownBy w' v.ownBlock) (o : On 6 w' lo w'.heap.size 160 v' (T.length + 1) (ecs T ++ (ec x.n x.u).toList)) (h1 : lo ≤ lo2) : Oet w' lo w'.heap.size v' (T ++ [x]) := by
  have hne : ∀ {a b : Nat} {u : Value} {l : List Nd}, Od w a b u l → Od w' a b u l := fun {a b u l} h9 => On.keep1 h9 (fun j hj => gr.block j (On.lt h9 hj).2.2 (fun e9 => by
    rcases h9.1.2 with ⟨rfl, _⟩ | ⟨g9, cap, cur, rfl, _, hgb, _⟩
    · simp [Value.ownBlock] at hj
    · simp [Value.ownBlock] at hj
      subst hj
      exact On.neRow h.1 hgb (by decide) e9.symm))
  have hs := gr.size
  refine ⟨by rw [List.length_append, ecs_snoc]; exact o, fun y hy => ?_, Nat.le_refl _⟩
  rcases List.mem_append.1 hy with h9 | h9
  · exact On.mono (hne (h.2.1 y h9)) (Nat.le_refl _) (Nat.le_trans h.2.2 hs)
  · rw [List.mem_singleton.1 h9]
    exact On.mono (hne hd.1) h1 (Nat.le_trans hd.2 hs)
theorem Od.empty9 (w : World) (lo hi : Nat) : Od w lo hi (.slice none 0 0) [] := On.nil 5 w lo hi _
theorem On.far9 {n m : Nat} {w : World} {lo hi g : Nat} {e : TypeId} {v : Value} {cs : List Value} (h : On n w lo hi e v m cs) (hg : g < lo ∨ hi ≤ g) : v.ownBlock ≠ some g := fun hv => by have := On.lt h hv; omega
theorem at15_nil (q : Nd) : at15 q [] 0 = -1 := rfl

end Go.Proofs.YtbopliahafkecaaGreatDoor.Fe

/- Chapter 16: what is reached, what is selected of it; plain facts. -/
namespace Go.Proofs.YtbopliahafkecaaGreatDoor.Se
open Go.RowKit Go.Proofs.YtbopliahafkecaaGreatDoor.Mem Go.Proofs.YtbopliahafkecaaGreatDoor.Laws Go.Proofs.YtbopliahafkecaaGreatDoor.Ver Go.Proofs.YtbopliahafkecaaGreatDoor.Ent Go.Proofs.YtbopliahafkecaaGreatDoor.Fe
set_option linter.unusedVariables false
set_option linter.unusedSimpArgs false

theorem eqT_same (a b : ByteArray) : eqT a b = true ↔ a = b := by
  unfold eqT
  rw [beq_iff_eq, ByteArray.toList_eq, ByteArray.toList_eq]
  constructor
  · intro h; apply ByteArray.ext; apply Array.ext'; exact h
  · rintro rfl; rfl
theorem isN_iff (q n : Nd) : isN q n = true ↔ n = q := by
  unfold isN
  rw [Bool.and_eq_true, sameV_iff]
  have e : (n.path.toList == q.path.toList) = true ↔ n.path = q.path := eqT_same _ _
  rw [e]
  constructor
  · rintro ⟨h1, h2, h3, h4, h5⟩
    cases n; cases q; simp_all
  · rintro rfl; simp
/-- is this need in the row -/
def has16 (l : List Nd) (n : Nd) : Bool := l.any fun x => isN n x
theorem has16_iff (l : List Nd) (n : Nd) : has16 l n = true ↔ n ∈ l := by
  unfold has16
  rw [List.any_eq_true]
  constructor
  · rintro ⟨x, hx, h⟩; rw [isN_iff] at h; subst h; exact hx
  · intro h; exact ⟨n, h, (isN_iff _ _).2 rfl⟩
/-- an entry's needs come behind the row -/
def put16 (row : List Nd) (n : Nd) : List Nd := if has16 row n = true then row else row ++ [n]
def add16 : List Nd → List Nd → Option (List Nd)
  | row, [] => some row
  | row, n :: r => if 60 < (put16 row n).length then none else add16 (put16 row n) r
theorem put16_nodup {row : List Nd} {n : Nd} (h : row.Nodup) : (put16 row n).Nodup := by
  unfold put16
  split
  · exact h
  · rename_i hn
    rw [List.nodup_append]
    refine ⟨h, by simp, fun a ha b hb he => ?_⟩
    simp at hb
    subst hb; subst he
    exact hn ((has16_iff _ _).2 ha)
theorem put16_mem {row : List Nd} {n x : Nd} : x ∈ put16 row n ↔ x ∈ row ∨ x = n := by
  unfold put16
  split
  · rename_i h
    have := (has16_iff _ _).1 h
    constructor
    · exact .inl
    · rintro (h | rfl)
      · exact h
      · exact this
  · simp
theorem put16_app (row : List Nd) (n : Nd) : ∃ t, put16 row n = row ++ t := by
  unfold put16
  split
  · exact ⟨[], by simp⟩
  · exact ⟨[n], rfl⟩
theorem add16_some : ∀ (ns row out : List Nd), row.Nodup → row.length ≤ 60 → add16 row ns = some out →
    (∃ t, out = row ++ t) ∧ out.Nodup ∧ out.length ≤ 60 ∧ (∀ x, x ∈ out ↔ x ∈ row ∨ x ∈ ns) := by
  intro ns
  induction ns with
  | nil =>
    intro row out h1 h2 h
    simp only [add16, Option.some.injEq] at h
    subst h
    exact ⟨⟨[], by simp⟩, h1, h2, fun x => by simp⟩
  | cons n r ih =>
    intro row out h1 h2 h
    rw [add16] at h
    split at h
    · cases h
    · rename_i hl
      obtain ⟨⟨t, ht⟩, k2, k3, k4⟩ := ih _ _ (put16_nodup h1) (by omega) h
      obtain ⟨u, hu⟩ := put16_app row n
      refine ⟨⟨u ++ t, by rw [ht, hu]; simp⟩, k2, k3, fun x => ?_⟩
      rw [k4, put16_mem]
      simp only [List.mem_cons]
      constructor
      · rintro ((h | h) | h)
        · exact .inl h
        · exact .inr (.inl h)
        · exact .inr (.inr h)
      · rintro (h | h | h)
        · exact .inl (.inl h)
        · exact .inl (.inr h)
        · exact .inr h
theorem nodup_len : ∀ (l C : List Nd), l.Nodup → (∀ x ∈ l, x ∈ C) → l.length ≤ C.length := by
  intro l
  haveI : DecidableEq Nd := fun a b => Classical.propDecidable _
  induction l with
  | nil => intro C _ _; simp
  | cons x r ih =>
    intro C hn hs
    have hx : x ∈ C := hs x (by simp)
    obtain ⟨h1, h2⟩ := List.nodup_cons.1 hn
    have := ih (C.erase x) h2 (fun y hy => (List.mem_erase_of_ne (fun h => h1 (by rw [← h]; exact hy))).2 (hs y (by simp [hy])))
    rw [List.length_erase_of_mem hx] at this
    have : 0 < C.length := List.length_pos_of_mem hx
    simp
    omega
theorem add16_fits {C : List Nd} (hC : C.length ≤ 60) : ∀ (ns row : List Nd), row.Nodup → (∀ x ∈ row, x ∈ C) → (∀ x ∈ ns, x ∈ C) → ∃ out, add16 row ns = some out := by
  intro ns
  induction ns with
  | nil => intro row _ _ _; exact ⟨row, rfl⟩
  | cons n r ih =>
    intro row h1 h2 h3
    have hs : ∀ x ∈ put16 row n, x ∈ C := by
      intro x hx
      rcases put16_mem.1 hx with h | rfl
      · exact h2 x h
      · exact h3 x (by simp)
    have := nodup_len _ _ (put16_nodup (n := n) h1) hs
    obtain ⟨out, ho⟩ := ih (put16 row n) (put16_nodup h1) hs (fun x hx => h3 x (by simp [hx]))
    exact ⟨out, by rw [add16, if_neg (by omega)]; exact ho⟩
/-- the row, one behind the other -/
def walk16 (l : List Ev) : Nat → List Nd → Nat → List Nd × Int
  | 0, row, _ => (row, 0)
  | f + 1, row, i => match row[i]? with
    | none => (row, 0)
    | some q => match find15 q l with
      | none => ([], 2)
      | some e => if entry5 e.n e.l = true then (match add16 row e.l with
        | none => ([], 3)
        | some out => walk16 l f out (i + 1)) else ([], 2)
def reach16 (l : List Ev) (roots : List Nd) : List Nd × Int := if needs5 roots = true then walk16 l 61 roots 0 else ([], 1)
/-- there is an entry of this name, and all that it needs is in the row -/
def Hs (l : List Ev) (row : List Nd) (q : Nd) : Prop := ∃ e, find15 q l = some e ∧ entry5 e.n e.l = true ∧ ∀ n ∈ e.l, n ∈ row
theorem walk16_code (l : List Ev) : ∀ (f : Nat) (row : List Nd) (i : Nat), (walk16 l f row i).2 = 0 ∨ (walk16 l f row i).1 = [] ∧ ((walk16 l f row i).2 = 2 ∨ (walk16 l f row i).2 = 3) := by
  intro f
  induction f with
  | zero => intro row i; exact .inl rfl
  | succ f ih =>
    intro row i
    rw [walk16]
    split
    · exact .inl rfl
    · split
      · exact .inr ⟨rfl, .inl rfl⟩
      · split
        · split
          · exact .inr ⟨rfl, .inr rfl⟩
          · exact ih _ _
        · exact .inr ⟨rfl, .inl rfl⟩
theorem reach16_code (l : List Ev) (roots : List Nd) : (reach16 l roots).2 = 0 ∨ (reach16 l roots).1 = [] ∧ (reach16 l roots).2 ≠ 0 := by
  unfold reach16
  split
  · rcases walk16_code l 61 roots 0 with h | ⟨h1, h2 | h2⟩
    · exact .inl h
    · exact .inr ⟨h1, by rw [h2]; decide⟩
    · exact .inr ⟨h1, by rw [h2]; decide⟩
  · exact .inr ⟨rfl, by decide⟩
theorem mem_take_succ {α : Type} {l : List α} {i : Nat} {x q : α} (hq : l[i]? = some q) (h : x ∈ l.take (i + 1)) : x ∈ l.take i ∨ x = q := by
  rw [take_snoc15 hq] at h
  rcases List.mem_append.1 h with h | h
  · exact .inl h
  · simp at h; exact .inr h
theorem walk16_good (l : List Ev) : ∀ (f : Nat) (row : List Nd) (i : Nat), row.Nodup → row.length ≤ 60 → i ≤ row.length → 61 ≤ i + f → (∀ q ∈ row.take i, Hs l row q) → (walk16 l f row i).2 = 0 →
    (∃ t, (walk16 l f row i).1 = row ++ t) ∧ (walk16 l f row i).1.Nodup ∧ (walk16 l f row i).1.length ≤ 60 ∧ (∀ q ∈ (walk16 l f row i).1, Hs l (walk16 l f row i).1 q) ∧
    (∀ C : List Nd, (∀ q ∈ row, q ∈ C) → (∀ q ∈ C, ∀ e, find15 q l = some e → ∀ n ∈ e.l, n ∈ C) → ∀ q ∈ (walk16 l f row i).1, q ∈ C) := by
  intro f
  induction f with
  | zero => intro row i _ h1 h2 h3; omega
  | succ f ih =>
    intro row i hn hl hi hf hd hc
    rw [walk16] at hc ⊢
    cases hq : row[i]? with
    | none =>
      have he : row.length ≤ i := by rw [List.getElem?_eq_none_iff] at hq; exact hq
      refine ⟨⟨[], by simp⟩, hn, hl, ?_, fun C h _ q hq => h q hq⟩
      rw [List.take_of_length_le he] at hd
      exact hd
    | some q =>
      simp only [hq] at hc ⊢
      cases hfi : find15 q l with
      | none => simp only [hfi] at hc; cases hc
      | some e =>
        simp only [hfi] at hc ⊢
        by_cases hok : entry5 e.n e.l = true
        · rw [if_pos hok] at hc ⊢
          cases ha : add16 row e.l with
          | none => simp only [ha] at hc; cases hc
          | some out =>
            simp only [ha] at hc ⊢
            obtain ⟨⟨t, ht⟩, k2, k3, k4⟩ := add16_some _ _ _ hn hl ha
            have hil : i < row.length := (List.getElem?_eq_some_iff.1 hq).1
            have hd2 : ∀ x ∈ out.take (i + 1), Hs l out x := by
              intro x hx
              have hx2 : x ∈ row.take (i + 1) := by
                rw [ht, List.take_append_of_le_length (by omega)] at hx; exact hx
              rcases mem_take_succ hq hx2 with h | rfl
              · obtain ⟨e2, a1, a2, a3⟩ := hd x h
                exact ⟨e2, a1, a2, fun n hn => (k4 n).2 (.inl (a3 n hn))⟩
              · exact ⟨e, hfi, hok, fun n hn => (k4 n).2 (.inr hn)⟩
            have hlen : out.length = row.length + t.length := by rw [ht]; simp
            obtain ⟨⟨u, hu⟩, m2, m3, m4, m5⟩ := ih out (i + 1) k2 k3 (by omega) (by omega) hd2 hc
            refine ⟨⟨t ++ u, by rw [hu, ht]; simp⟩, m2, m3, m4, fun C h1 h2 => m5 C ?_ h2⟩
            intro x hx
            rcases (k4 x).1 hx with h | h
            · exact h1 x h
            · exact h2 q (h1 q (List.mem_of_getElem? hq)) e hfi x h
        · rw [if_neg hok] at hc; cases hc
/-- a row inside one that has all comes to an end without a fault -/
theorem walk16_ok (l : List Ev) {C : List Nd} (hC : C.length ≤ 60) (hH : ∀ q ∈ C, Hs l C q) : ∀ (f : Nat) (row : List Nd) (i : Nat), row.Nodup → row.length ≤ 60 → (∀ q ∈ row, q ∈ C) → (walk16 l f row i).2 = 0 := by
  intro f
  induction f with
  | zero => intro row i _ _ _; rfl
  | succ f ih =>
    intro row i hn hl hs
    rw [walk16]
    cases hq : row[i]? with
    | none => rfl
    | some q =>
      obtain ⟨e, h1, h2, h3⟩ := hH q (hs q (List.mem_of_getElem? hq))
      simp only [h1, if_pos h2]
      obtain ⟨out, ho⟩ := add16_fits hC e.l row hn hs h3
      simp only [ho]
      obtain ⟨_, k2, k3, k4⟩ := add16_some _ _ _ hn hl ho
      refine ih out (i + 1) k2 k3 fun x hx => ?_
      rcases (k4 x).1 hx with h | h
      · exact hs x h
      · exact h3 x h

end Go.Proofs.YtbopliahafkecaaGreatDoor.Se

/- Chapter 16: of each path the latest; plain facts. -/
namespace Go.Proofs.YtbopliahafkecaaGreatDoor.Se
open Go.RowKit Go.Proofs.YtbopliahafkecaaGreatDoor.Mem Go.Proofs.YtbopliahafkecaaGreatDoor.Laws Go.Proofs.YtbopliahafkecaaGreatDoor.Ver Go.Proofs.YtbopliahafkecaaGreatDoor.Ent Go.Proofs.YtbopliahafkecaaGreatDoor.Fe
set_option linter.unusedVariables false
set_option linter.unusedSimpArgs false

theorem bl_irr : ∀ a : List UInt8, Op.bytesLess a a = false := by
  intro a
  induction a with
  | nil => rfl
  | cons x r ih => rw [Op.bytesLess, ih]; simp
theorem bl_tr : ∀ a b c : List UInt8, Op.bytesLess a b = true → Op.bytesLess b c = true → Op.bytesLess a c = true := by
  intro a
  induction a with
  | nil =>
    intro b c h1 h2
    cases c with
    | nil => cases b <;> simp [Op.bytesLess] at h2
    | cons z c => rfl
  | cons x a ih =>
    intro b c h1 h2
    cases b with
    | nil => simp [Op.bytesLess] at h1
    | cons y b =>
      cases c with
      | nil => simp [Op.bytesLess] at h2
      | cons z c =>
        simp only [Op.bytesLess, Bool.or_eq_true, Bool.and_eq_true, decide_eq_true_eq, beq_iff_eq] at h1 h2 ⊢
        rcases h1 with h1 | ⟨rfl, h1⟩
        · rcases h2 with h2 | ⟨rfl, h2⟩
          · exact .inl (UInt8.lt_trans h1 h2)
          · exact .inl h1
        · rcases h2 with h2 | ⟨rfl, h2⟩
          · exact .inl h2
          · exact .inr ⟨rfl, ih _ _ h1 h2⟩
theorem bl_tot : ∀ a b : List UInt8, Op.bytesLess a b = true ∨ a = b ∨ Op.bytesLess b a = true := by
  intro a
  induction a with
  | nil =>
    intro b
    cases b with
    | nil => exact .inr (.inl rfl)
    | cons y b => exact .inl rfl
  | cons x a ih =>
    intro b
    cases b with
    | nil => exact .inr (.inr rfl)
    | cons y b =>
      simp only [Op.bytesLess, Bool.or_eq_true, Bool.and_eq_true, decide_eq_true_eq, beq_iff_eq, List.cons.injEq]
      by_cases h1 : x < y
      · exact .inl (.inl h1)
      · by_cases h2 : y < x
        · exact .inr (.inr (.inl h2))
        · have h3 : x = y := by
            apply UInt8.le_antisymm
            · exact UInt8.not_lt.1 h2
            · exact UInt8.not_lt.1 h1
          subst h3
          rcases ih b with h | h | h
          · exact .inl (.inr ⟨rfl, h⟩)
          · exact .inr (.inl ⟨rfl, h⟩)
          · exact .inr (.inr (.inr ⟨rfl, h⟩))
theorem lt_irr (a : ByteArray) : ltT a a = false := bl_irr _
theorem lt_tr {a b c : ByteArray} (h1 : ltT a b = true) (h2 : ltT b c = true) : ltT a c = true := bl_tr _ _ _ h1 h2
theorem lt_tot (a b : ByteArray) : ltT a b = true ∨ a = b ∨ ltT b a = true := by
  rcases bl_tot a.toList b.toList with h | h | h
  · exact .inl h
  · exact .inr (.inl ((eqT_same a b).1 (by unfold eqT; rw [beq_iff_eq]; exact h)))
  · exact .inr (.inr h)
theorem lt_ne {a b : ByteArray} (h : ltT a b = true) : eqT a b = false := by
  cases he : eqT a b with
  | false => rfl
  | true => rw [(eqT_same a b).1 he, lt_irr] at h; cases h
theorem eqT_no {a b : ByteArray} : eqT a b = false ↔ a ≠ b := by
  rw [← Bool.not_eq_true, not_congr (eqT_same a b)]

/-- needs whose paths rise -/
def Up (l : List Nd) : Prop := l.Pairwise fun x y => ltT x.path y.path = true
theorem Up.one {l : List Nd} (h : Up l) {x y : Nd} (hx : x ∈ l) (hy : y ∈ l) (he : x.path = y.path) : x = y := by
  induction l with
  | nil => cases hx
  | cons z r ih =>
    obtain ⟨h1, h2⟩ := List.pairwise_cons.1 h
    rcases List.mem_cons.1 hx with rfl | hx
    · rcases List.mem_cons.1 hy with rfl | hy
      · rfl
      · have := h1 y hy; rw [he, lt_irr] at this; cases this
    · rcases List.mem_cons.1 hy with rfl | hy
      · have := h1 x (by assumption); rw [he, lt_irr] at this; cases this
      · exact ih h2 (by assumption) (by assumption)
theorem Up.nodup {l : List Nd} (h : Up l) : l.Nodup := by
  refine List.Pairwise.imp ?_ h
  intro a b hab he
  subst he
  rw [lt_irr] at hab; cases hab
theorem rise_up : ∀ l : List Nd, rise l = true → Up l := by
  intro l
  induction l with
  | nil => intro _; exact List.Pairwise.nil
  | cons x r ih =>
    intro h
    cases r with
    | nil => exact List.pairwise_singleton _ _
    | cons y r =>
      have h' : (x.ok && ltT x.path y.path && rise (y :: r)) = true := h
      rw [Bool.and_eq_true, Bool.and_eq_true] at h'
      obtain ⟨⟨h1, h2⟩, h3⟩ := h'
      have hu := ih h3
      refine List.pairwise_cons.2 ⟨fun z hz => ?_, hu⟩
      rcases List.mem_cons.1 hz with rfl | hz
      · exact h2
      · exact lt_tr h2 ((List.pairwise_cons.1 hu).1 z hz)
theorem needs_up {l : List Nd} (h : needs5 l = true) : Up l ∧ l.length ≤ 20 := by
  unfold needs5 at h
  rw [Bool.and_eq_true, decide_eq_true_eq] at h
  exact ⟨rise_up l h.2, h.1⟩
/-- needs that rise and have the same members are the same -/
theorem Up.same : ∀ {l m : List Nd}, Up l → Up m → (∀ x, x ∈ l ↔ x ∈ m) → l = m := by
  intro l
  induction l with
  | nil =>
    intro m _ _ h
    cases m with
    | nil => rfl
    | cons y m => have := (h y).2 (by simp); cases this
  | cons x l ih =>
    intro m h1 h2 h
    cases m with
    | nil => have := (h x).1 (by simp); cases this
    | cons y m =>
      obtain ⟨a1, a2⟩ := List.pairwise_cons.1 h1
      obtain ⟨b1, b2⟩ := List.pairwise_cons.1 h2
      have hxy : x = y := by
        rcases List.mem_cons.1 ((h x).1 (by simp)) with e | hx
        · exact e
        · rcases List.mem_cons.1 ((h y).2 (by simp)) with e | hy
          · exact e.symm
          · have := lt_tr (b1 x hx) (a1 y hy)
            rw [lt_irr] at this; cases this
      subst hxy
      have hn1 : x ∉ l := fun hx => by have := a1 x hx; rw [lt_irr] at this; cases this
      have hn2 : x ∉ m := fun hx => by have := b1 x hx; rw [lt_irr] at this; cases this
      congr 1
      refine ih a2 b2 fun z => ?_
      constructor
      · intro hz
        rcases List.mem_cons.1 ((h z).1 (by simp [hz])) with rfl | hm
        · exact absurd hz hn1
        · exact hm
      · intro hz
        rcases List.mem_cons.1 ((h z).2 (by simp [hz])) with rfl | hm
        · exact absurd hz hn2
        · exact hm

theorem ins_form (l : List Nd) (n : Nd) : insN l n = l.takeWhile (lts n) ++ [n] ++ (l.dropWhile (lts n)).filter (nes n) := by
  have hf := fold_false n l [] (fun x hx h => lt_ne h)
  have htd : l.takeWhile (lts n) ++ l.dropWhile (lts n) = l := List.takeWhile_append_dropWhile
  by_cases hd : l.dropWhile (lts n) = []
  · rw [if_pos hd] at hf
    rw [hd, List.append_nil] at htd
    unfold insN
    rw [hf, hd, htd]
    simp
  · rw [if_neg hd] at hf
    unfold insN
    rw [hf]
    simp
theorem ins_iff (l : List Nd) (n x : Nd) : x ∈ insN l n ↔ x = n ∨ x ∈ l ∧ x.path ≠ n.path := by
  have htd : l.takeWhile (lts n) ++ l.dropWhile (lts n) = l := List.takeWhile_append_dropWhile
  rw [ins_form]
  constructor
  · intro h
    rcases List.mem_append.1 h with h | h
    · rcases List.mem_append.1 h with h | h
      · obtain ⟨h1, h2⟩ := take_lt (lts n) l x h
        exact .inr ⟨h2, eqT_no.1 (lt_ne h1)⟩
      · simp at h; exact .inl h
    · obtain ⟨h1, h2⟩ := List.mem_filter.1 h
      refine .inr ⟨(List.dropWhile_sublist (lts n)).subset h1, eqT_no.1 ?_⟩
      unfold nes at h2
      simpa using h2
  · rintro (rfl | ⟨h1, h2⟩)
    · simp
    · rw [← htd] at h1
      rcases List.mem_append.1 h1 with h | h
      · simp [h]
      · refine List.mem_append_right _ (List.mem_filter.2 ⟨h, ?_⟩)
        unfold nes
        rw [eqT_no.2 h2]
        rfl
theorem Up.ins {l : List Nd} (hl : Up l) (n : Nd) : Up (insN l n) := by
  have htd : l.takeWhile (lts n) ++ l.dropWhile (lts n) = l := List.takeWhile_append_dropWhile
  have hgt : ∀ y ∈ (l.dropWhile (lts n)).filter (nes n), ltT n.path y.path = true := by
    intro y hy
    obtain ⟨hy1, hy2⟩ := List.mem_filter.1 hy
    have hye : y.path ≠ n.path := by unfold nes at hy2; exact eqT_no.1 (by simpa using hy2)
    cases hd : l.dropWhile (lts n) with
    | nil => rw [hd] at hy1; cases hy1
    | cons z r =>
      obtain ⟨hz, a, ha⟩ := mem_drop_head _ _ _ _ hd
      have hz' : ltT z.path n.path = false := hz
      rw [hd] at hy1
      have hzn : n.path = z.path ∨ ltT n.path z.path = true := by
        rcases lt_tot z.path n.path with h | h | h
        · rw [hz'] at h; cases h
        · exact .inl h.symm
        · exact .inr h
      rcases List.mem_cons.1 hy1 with rfl | hr
      · rcases hzn with h | h
        · exact absurd h.symm hye
        · exact h
      · have hp : Up l := hl
        unfold Up at hp
        rw [ha, List.pairwise_append] at hp
        have h2 := (List.pairwise_cons.1 hp.2.1).1 y hr
        rcases hzn with h | h
        · rw [h]; exact h2
        · exact lt_tr h h2
  rw [ins_form]
  unfold Up
  rw [List.pairwise_append, List.pairwise_append]
  refine ⟨⟨List.Pairwise.sublist (List.takeWhile_sublist _) hl, by simp, fun a ha b hb => by simp at hb; subst hb; exact (take_lt (lts b) l a ha).1⟩, List.Pairwise.sublist (List.filter_sublist.trans (List.dropWhile_sublist _)) hl, ?_⟩
  intro a ha b hb
  rcases List.mem_append.1 ha with ha | ha
  · exact lt_tr (take_lt (lts n) l a ha).1 (hgt b hb)
  · simp at ha; subst ha; exact hgt b hb

/-- one version less than the other -/
def lv (x y : Nd) : Bool := lessV x.a x.b x.c x.pre y.a y.b y.c y.pre
/-- x is of q's path, and no less -/
def cov1 (q x : Nd) : Bool := eqT x.path q.path && !lv x q
theorem cov1_iff {q x : Nd} : cov1 q x = true ↔ x.path = q.path ∧ lv x q = false := by
  unfold cov1
  rw [Bool.and_eq_true, eqT_same]
  simp
def covers16 (list needs : List Nd) : Bool := needs.all fun n => list.any (cov1 n)
theorem covers_iff {list needs : List Nd} : covers16 list needs = true ↔ ∀ n ∈ needs, ∃ x ∈ list, x.path = n.path ∧ lv x n = false := by
  unfold covers16
  rw [List.all_eq_true]
  constructor
  · intro h n hn
    obtain ⟨x, hx, hc⟩ := List.any_eq_true.1 (h n hn)
    exact ⟨x, hx, cov1_iff.1 hc⟩
  · intro h n hn
    obtain ⟨x, hx, hc⟩ := h n hn
    exact List.any_eq_true.2 ⟨x, hx, cov1_iff.2 hc⟩
def closed16 (l : List Ev) (list : List Nd) : Bool := list.all fun q => match find15 q l with | none => false | some e => covers16 list e.l
def max16 (l : List Nd) (n : Nd) : List Nd := if l.any (cov1 n) = true then l else insN l n
def sel16 (row : List Nd) : List Nd := row.foldl max16 []
def select16 (l : List Ev) (roots : List Nd) : List Nd × Int := (sel16 (reach16 l roots).1, (reach16 l roots).2)

/-- the order of the versions of these needs -/
structure Lin (D : Nd → Prop) : Prop where
  irr : ∀ {x}, D x → lv x x = false
  tr : ∀ {x y z}, D x → D y → D z → lv x y = true → lv y z = true → lv x z = true
  tot : ∀ {x y}, D x → D y → x.path = y.path → lv x y = false → lv y x = false → x = y
theorem Lin.as {D : Nd → Prop} (h : Lin D) {x y : Nd} (hx : D x) (hy : D y) (h1 : lv x y = true) : lv y x = false := by
  cases h2 : lv y x with
  | false => rfl
  | true => have := h.tr hx hy hx h1 h2; rw [h.irr hx] at this; cases this
/-- no less than what is no less -/
theorem Lin.nl {D : Nd → Prop} (h : Lin D) {x y z : Nd} (hx : D x) (hy : D y) (hz : D z) (hp : x.path = y.path) (h1 : lv x y = false) (h2 : lv y z = false) : lv x z = false := by
  cases h3 : lv x z with
  | false => rfl
  | true =>
    cases h4 : lv y x with
    | true => have := h.tr hy hx hz h4 h3; rw [h2] at this; cases this
    | false => have := h.tot hx hy hp h1 h4; subst this; rw [h3] at h2; cases h2
/-- what was selected of a row -/
structure Sel (row out : List Nd) : Prop where
  up : Up out
  sub : ∀ x ∈ out, x ∈ row
  cov : ∀ q ∈ row, ∃ x ∈ out, x.path = q.path ∧ lv x q = false
theorem max_sel {D : Nd → Prop} (h : Lin D) {row out : List Nd} {n : Nd} (hs : Sel row out) (hD : ∀ x ∈ row, D x) (hn : D n) : Sel (row ++ [n]) (max16 out n) := by
  unfold max16
  cases ha : out.any (cov1 n) with
  | true =>
    rw [if_pos rfl]
    obtain ⟨x, hx, hc⟩ := List.any_eq_true.1 ha
    refine ⟨hs.up, fun x hx => by simp [hs.sub x hx], fun q hq => ?_⟩
    rcases List.mem_append.1 hq with hq | hq
    · exact hs.cov q hq
    · simp at hq; subst hq; exact ⟨x, hx, cov1_iff.1 hc⟩
  | false =>
    rw [if_neg (by simp)]
    refine ⟨hs.up.ins n, fun x hx => ?_, fun q hq => ?_⟩
    · rcases (ins_iff out n x).1 hx with rfl | ⟨h1, _⟩
      · simp
      · simp [hs.sub x h1]
    · rcases List.mem_append.1 hq with hq | hq
      · obtain ⟨x, hx, h1, h2⟩ := hs.cov q hq
        by_cases hp : x.path = n.path
        · refine ⟨n, (ins_iff _ _ _).2 (.inl rfl), by rw [← hp]; exact h1, ?_⟩
          have hxn : lv x n = true := by
            have h3 := List.any_eq_false.1 ha x hx
            cases h4 : lv x n with
            | true => rfl
            | false => exact absurd (cov1_iff.2 ⟨hp, h4⟩) h3
          have dx := hD x (hs.sub x hx)
          have dq := hD q hq
          exact h.nl hn dx dq hp.symm (h.as dx hn hxn) h2
        · exact ⟨x, (ins_iff _ _ _).2 (.inr ⟨hx, hp⟩), h1, h2⟩
      · simp at hq; subst hq
        exact ⟨q, (ins_iff _ _ _).2 (.inl rfl), rfl, h.irr hn⟩
theorem sel_fold {D : Nd → Prop} (h : Lin D) : ∀ (r row out : List Nd), Sel row out → (∀ x ∈ row ++ r, D x) → Sel (row ++ r) (r.foldl max16 out) := by
  intro r
  induction r with
  | nil => intro row out hs _; simpa using hs
  | cons n r ih =>
    intro row out hs hD
    have := ih (row ++ [n]) (max16 out n) (max_sel h hs (fun x hx => hD x (by simp [hx])) (hD n (by simp))) (fun x hx => hD x (by simpa using hx))
    rw [List.foldl_cons]
    simpa using this
theorem sel_sel {D : Nd → Prop} (h : Lin D) (row : List Nd) (hD : ∀ x ∈ row, D x) : Sel row (sel16 row) := by
  have h0 : Sel [] [] := ⟨List.Pairwise.nil, fun x hx => (List.not_mem_nil hx).elim, fun q hq => (List.not_mem_nil hq).elim⟩
  have := sel_fold h row [] [] h0 (by simpa using hD)
  rw [List.nil_append] at this
  exact this
theorem Sel.iff {D : Nd → Prop} (h : Lin D) {row out : List Nd} (hs : Sel row out) (hD : ∀ x ∈ row, D x) (x : Nd) : x ∈ out ↔ x ∈ row ∧ ∀ q ∈ row, x.path = q.path → lv x q = false := by
  constructor
  · intro hx
    refine ⟨hs.sub x hx, fun q hq hp => ?_⟩
    obtain ⟨y, hy, h1, h2⟩ := hs.cov q hq
    rw [hs.up.one hx hy (by rw [hp, h1])]
    exact h2
  · rintro ⟨hx, hm⟩
    obtain ⟨y, hy, h1, h2⟩ := hs.cov x hx
    have hyr := hs.sub y hy
    rw [← h.tot (hD y hyr) (hD x hx) h1 h2 (hm y hyr h1.symm)]
    exact hy
/-- a row between what was selected and the row that it was selected of: the same is selected -/
theorem sel_again {D : Nd → Prop} (h : Lin D) {row row2 out out2 : List Nd} (hs : Sel row out) (hs2 : Sel row2 out2) (hD : ∀ x ∈ row, D x) (h1 : ∀ x ∈ out, x ∈ row2) (h2 : ∀ x ∈ row2, x ∈ row) : out2 = out := by
  have hD2 : ∀ x ∈ row2, D x := fun x hx => hD x (h2 x hx)
  refine hs2.up.same hs.up fun x => ?_
  rw [hs2.iff h hD2, hs.iff h hD]
  constructor
  · rintro ⟨hx, hm⟩
    refine ⟨h2 x hx, fun q hq hp => ?_⟩
    obtain ⟨y, hy, h3, h4⟩ := hs.cov q hq
    have hyx : x.path = y.path := by rw [hp, h3]
    exact h.nl (hD2 x hx) (hD y (hs.sub y hy)) (hD q hq) hyx (hm y (h1 y hy) hyx) h4
  · rintro ⟨hx, hm⟩
    exact ⟨h1 x ((hs.iff h hD x).2 ⟨hx, hm⟩), fun q hq hp => hm q (h2 q hq) hp⟩

end Go.Proofs.YtbopliahafkecaaGreatDoor.Se
