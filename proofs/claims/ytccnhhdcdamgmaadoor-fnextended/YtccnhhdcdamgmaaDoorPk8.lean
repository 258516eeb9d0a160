/- Texts in one: Is2, LhC, HfB, LhD. -/
import Derived.Test.YtccnhhdcdamgmaaDoorPk7
import Derived.Test.YtccnhhdcdamgmaaDoorRows
import Derived.Test.YtccnhhdcdamgmaaDoorPk5
import Derived.Test.YtccnhhdcdamgmaaDoorPk4
import Derived.Test.YtccnhhdcdamgmaaDoorPk6
import Derived.Test.YtccnhhdcdamgmaaDoorLg2
import Derived.Stop.LaidTwo
import Derived.LaidSub
import Derived.MakeChecks
import Derived.ChangeShapes
/- From a row's list of variables to two errors made by errors.New. -/
namespace Go.Proofs.YtccnhhdcdamgmaaDoor.Is
open Go.RowKit Go.Extern.Stop Go.Stop Go.Extern
set_option linter.unusedVariables false
set_option linter.unusedSimpArgs false

theorem star : "*" ++ "errors.errorString" = "*errors.errorString" := by decide
theorem rowE (u : TypeId) (h : Tryd.prog.typeName? 3 u = some "*errors.errorString") : u = 148 :=
  typeName_ptr_named (nm := "errors.errorString") (by rw [star]; kernel_rfl) (by kernel_rfl) (by decide) u (by rw [star]; exact h)
theorem cellsE : Tryd.prog.cellsOf 172 = 1 := by kernel_rfl
theorem cells9 : Tryd.prog.cellsOf 9 = 1 := by kernel_rfl

/-- what is laid of an error made by errors.New on a text -/
abbrev lay (x : List UInt8) : DataW Unit := .iface "*errors.errorString" (.ptr (.agg [.lit (.string x)]))
/-- variable g holds an error made by errors.New, at a -/
def At (w : World) (g : Nat) (a : Addr) : Prop := w.cell? ⟨g, 0, none⟩ = some (.iface 148 (.pointer (some a))) ∧ ∃ c t, w.heap[a.block]? = some (.cells c t (0, 0))
theorem At.later {w w' : World} {g : Nat} {a : Addr} (h : At w g a) (b : Below w.heap.size w w') : At w' g a := by
  obtain ⟨h1, c, t, h2⟩ := h
  exact ⟨(b.cell (World.block_lt_of_cell? w _ h1)).trans h1, c, t, (b.block _ (Array.getElem?_eq_some_iff.1 h2).1).trans h2⟩
theorem At.same {w : World} {g : Nat} {a b : Addr} (h : At w g a) (k : At w g b) : a = b := by
  have := h.1.symm.trans k.1
  simpa using this

theorem two {n0 n1 : String} {x0 x1 : List UInt8} {g0 g1 : Nat} {W : World} (h : laidMet Tryd.prog [(n0, lay x0), (n1, lay x1)] W)
    (hg0 : Tryd.prog.globalNamed n0 = some g0) (ht0 : (Tryd.prog.globals[g0]?).map (·.type) = some 75) (hg1 : Tryd.prog.globalNamed n1 = some g1) (ht1 : (Tryd.prog.globals[g1]?).map (·.type) = some 75) :
    ∃ a0 a1 : Addr, At W g0 a0 ∧ At W g1 a1 ∧ a0 ≠ a1 := by
  obtain ⟨a0, a1, s0, s1, c0, c1, t0, t1, hv0, hv1, hc0, hs0, hz0, hc1, hs1, hz1, hne, hb0, hb1⟩ := laid_sentinels2 h hg0 ht0 hg1 ht1 Tryd.underlying75 rowE Tryd.underlying148 Tryd.underlying172 rfl rfl Tryd.underlying9 cellsE cells9
  exact ⟨a0, a1, ⟨by simpa using World.var?_cell hg0 hv0 0, c0, t0, hb0⟩, ⟨by simpa using World.var?_cell hg1 hv1 0, c1, t1, hb1⟩, hne⟩

theorem vars_len {H : Type} {enc : TypeId × Value → H} {P : Program} {w : World} {spare : Nat → Bool} : ∀ (ns : List String) (gs : List (DataW H)) (ps : List MemPlace), DataW.TrodVars enc P w spare ns gs ps → gs.length = ns.length := by
  intro ns
  induction ns with
  | nil =>
    intro gs ps h
    obtain ⟨rfl, _⟩ := Go.ChangeShapes.trodVars_none h
    rfl
  | cons n ns ih =>
    intro gs ps h
    cases gs with
    | nil => simp [DataW.TrodVars] at h
    | cons d ds =>
      obtain ⟨_, _, _, _, _, _, _, _, _, _, hs, _⟩ := h
      simp [ih _ _ hs]

end Go.Proofs.YtccnhhdcdamgmaaDoor.Is

/- Chapter 11, the landed code: which code an error is told by (errors.Is at one of four errors, wrapped, or at none). -/
namespace Go.Proofs.YtccnhhdcdamgmaaDoor.Is
open Go.RowKit Go.Extern.Stop Go.Stop Go.Extern
set_option linter.unusedVariables false
set_option linter.unusedSimpArgs false

set_option maxRecDepth 1000000 in
set_option maxHeartbeats 2000000 in
theorem is_nil (b : Addr) (w : World) :
    Calls Tryd.prog 85 #[.nilIface, .iface 148 (.pointer (some b))] w fun e w' => e = .returned (.bool false) ∧ Below w.heap.size w w' := by
  have hnl := run_eql_iface_nil_left (P := Tryd.prog) w 148 (.pointer (some b)) Tryd.underlying75
  go_enter Tryd.func85, Tryd.ntmps85
  go_wp2
  go_ret
  exact ⟨rfl, Below.refl _ _⟩

/-- where the program's four errors lie, all unlike -/
def Four (w : World) (a0 a1 a2 a3 : Addr) : Prop := At w 0 a0 ∧ At w 1 a1 ∧ At w 2 a2 ∧ At w 3 a3 ∧ a0 ≠ a1 ∧ a0 ≠ a2 ∧ a0 ≠ a3 ∧ a1 ≠ a2 ∧ a1 ≠ a3 ∧ a2 ≠ a3
theorem Four.later {w w' : World} {a0 a1 a2 a3 : Addr} (h : Four w a0 a1 a2 a3) (b : Below w.heap.size w w') : Four w' a0 a1 a2 a3 := by
  obtain ⟨h0, h1, h2, h3, hn⟩ := h
  exact ⟨h0.later b, h1.later b, h2.later b, h3.later b, hn⟩
/-- what refuses a head -/
abbrev refV (n : Int) (r : ByteArray) (a : Addr) : Value := .iface 107 (.agg #[.int .i64 n, .string r, .iface 148 (.pointer (some a))])
theorem At.is_other {w : World} {g g' : Nat} {a b : Addr} (n : Int) (r : ByteArray) (ha : At w g a) (hb : At w g' b) (hne : a ≠ b) :
    Calls Tryd.prog 85 #[refV n r a, .iface 148 (.pointer (some b))] w fun e w' => e = .returned (.bool false) ∧ Below w.heap.size w w' := by
  obtain ⟨_, ca, ta, h1⟩ := ha
  obtain ⟨_, cb, tb, h2⟩ := hb
  exact Is.is_other n r a b ca cb ta tb w hne h1 h2

set_option maxRecDepth 1000000 in
set_option maxHeartbeats 2000000 in
theorem code1 (w : World) (n : Int) (r : ByteArray) {a0 a1 a2 a3 : Addr} (h : Four w a0 a1 a2 a3) : Calls Tryd.prog 55 #[refV n r a0] w fun e w' => e = .returned (.int .i64 1) ∧ Below w.heap.size w w' := by
  obtain ⟨A0, A1, A2, A3, h01, h02, h03, h12, h13, h23⟩ := h
  have c0 := A0.1
  have B0 : Hid (Below w.heap.size w w) := Below.refl _ _
  have A0 : Hid (At w 0 a0) := A0
  have A1 : Hid (At w 1 a1) := A1
  have A2 : Hid (At w 2 a2) := A2
  have A3 : Hid (At w 3 a3) := A3
  have h01 : Hid (a0 ≠ a1) := h01
  have h02 : Hid (a0 ≠ a2) := h02
  have h03 : Hid (a0 ≠ a3) := h03
  have h12 : Hid (a1 ≠ a2) := h12
  have h13 : Hid (a1 ≠ a3) := h13
  have h23 : Hid (a2 ≠ a3) := h23
  go_enter Tryd.func55, Tryd.ntmps55
  go_wp2_with fail
  refine (is_same n r a0 w).mono ?_
  rintro e W1 ⟨rfl, b1⟩
  have B1 : Hid (Below w.heap.size w W1) := B0.out.trans (b1.mono B0.out.size)
  clear b1
  go_wp2
  go_ret
  exact ⟨rfl, B1.out⟩

set_option maxRecDepth 1000000 in
set_option maxHeartbeats 2000000 in
theorem code2 (w : World) (n : Int) (r : ByteArray) {a0 a1 a2 a3 : Addr} (h : Four w a0 a1 a2 a3) : Calls Tryd.prog 55 #[refV n r a1] w fun e w' => e = .returned (.int .i64 2) ∧ Below w.heap.size w w' := by
  obtain ⟨A0, A1, A2, A3, h01, h02, h03, h12, h13, h23⟩ := h
  have c0 := A0.1
  have c1 := A1.1
  have B0 : Hid (Below w.heap.size w w) := Below.refl _ _
  have A0 : Hid (At w 0 a0) := A0
  have A1 : Hid (At w 1 a1) := A1
  have A2 : Hid (At w 2 a2) := A2
  have A3 : Hid (At w 3 a3) := A3
  have h01 : Hid (a0 ≠ a1) := h01
  have h02 : Hid (a0 ≠ a2) := h02
  have h03 : Hid (a0 ≠ a3) := h03
  have h12 : Hid (a1 ≠ a2) := h12
  have h13 : Hid (a1 ≠ a3) := h13
  have h23 : Hid (a2 ≠ a3) := h23
  go_enter Tryd.func55, Tryd.ntmps55
  go_wp2_with fail
  refine (At.is_other (w := w) n r (A1.out.later B0.out) (A0.out.later B0.out) h01.out.symm).mono ?_
  rintro e W1 ⟨rfl, b1⟩
  have B1 : Hid (Below w.heap.size w W1) := B0.out.trans (b1.mono B0.out.size)
  have c1 : W1.cell? ⟨1, 0, none⟩ = some (.iface 148 (.pointer (some a1))) := (A1.out.later B1.out).1
  clear b1
  go_wp2_with fail
  refine (is_same n r a1 W1).mono ?_
  rintro e W2 ⟨rfl, b2⟩
  have B2 : Hid (Below w.heap.size w W2) := B1.out.trans (b2.mono B1.out.size)
  clear b2
  go_wp2
  go_ret
  exact ⟨rfl, B2.out⟩

set_option maxRecDepth 1000000 in
set_option maxHeartbeats 2000000 in
theorem code3 (w : World) (n : Int) (r : ByteArray) {a0 a1 a2 a3 : Addr} (h : Four w a0 a1 a2 a3) : Calls Tryd.prog 55 #[refV n r a2] w fun e w' => e = .returned (.int .i64 3) ∧ Below w.heap.size w w' := by
  obtain ⟨A0, A1, A2, A3, h01, h02, h03, h12, h13, h23⟩ := h
  have c0 := A0.1
  have c1 := A1.1
  have c2 := A2.1
  have B0 : Hid (Below w.heap.size w w) := Below.refl _ _
  have A0 : Hid (At w 0 a0) := A0
  have A1 : Hid (At w 1 a1) := A1
  have A2 : Hid (At w 2 a2) := A2
  have A3 : Hid (At w 3 a3) := A3
  have h01 : Hid (a0 ≠ a1) := h01
  have h02 : Hid (a0 ≠ a2) := h02
  have h03 : Hid (a0 ≠ a3) := h03
  have h12 : Hid (a1 ≠ a2) := h12
  have h13 : Hid (a1 ≠ a3) := h13
  have h23 : Hid (a2 ≠ a3) := h23
  go_enter Tryd.func55, Tryd.ntmps55
  go_wp2_with fail
  refine (At.is_other (w := w) n r (A2.out.later B0.out) (A0.out.later B0.out) h02.out.symm).mono ?_
  rintro e W1 ⟨rfl, b1⟩
  have B1 : Hid (Below w.heap.size w W1) := B0.out.trans (b1.mono B0.out.size)
  have c1 : W1.cell? ⟨1, 0, none⟩ = some (.iface 148 (.pointer (some a1))) := (A1.out.later B1.out).1
  have c2 : W1.cell? ⟨2, 0, none⟩ = some (.iface 148 (.pointer (some a2))) := (A2.out.later B1.out).1
  clear b1
  go_wp2_with fail
  refine (At.is_other (w := W1) n r (A2.out.later B1.out) (A1.out.later B1.out) h12.out.symm).mono ?_
  rintro e W2 ⟨rfl, b2⟩
  have B2 : Hid (Below w.heap.size w W2) := B1.out.trans (b2.mono B1.out.size)
  have c2 : W2.cell? ⟨2, 0, none⟩ = some (.iface 148 (.pointer (some a2))) := (A2.out.later B2.out).1
  clear b2
  go_wp2_with fail
  refine (is_same n r a2 W2).mono ?_
  rintro e W3 ⟨rfl, b3⟩
  have B3 : Hid (Below w.heap.size w W3) := B2.out.trans (b3.mono B2.out.size)
  clear b3
  go_wp2
  go_ret
  exact ⟨rfl, B3.out⟩

set_option maxRecDepth 1000000 in
set_option maxHeartbeats 2000000 in
theorem code4 (w : World) (n : Int) (r : ByteArray) {a0 a1 a2 a3 : Addr} (h : Four w a0 a1 a2 a3) : Calls Tryd.prog 55 #[refV n r a3] w fun e w' => e = .returned (.int .i64 4) ∧ Below w.heap.size w w' := by
  obtain ⟨A0, A1, A2, A3, h01, h02, h03, h12, h13, h23⟩ := h
  have c0 := A0.1
  have c1 := A1.1
  have c2 := A2.1
  have c3 := A3.1
  have B0 : Hid (Below w.heap.size w w) := Below.refl _ _
  have A0 : Hid (At w 0 a0) := A0
  have A1 : Hid (At w 1 a1) := A1
  have A2 : Hid (At w 2 a2) := A2
  have A3 : Hid (At w 3 a3) := A3
  have h01 : Hid (a0 ≠ a1) := h01
  have h02 : Hid (a0 ≠ a2) := h02
  have h03 : Hid (a0 ≠ a3) := h03
  have h12 : Hid (a1 ≠ a2) := h12
  have h13 : Hid (a1 ≠ a3) := h13
  have h23 : Hid (a2 ≠ a3) := h23
  go_enter Tryd.func55, Tryd.ntmps55
  go_wp2_with fail
  refine (At.is_other (w := w) n r (A3.out.later B0.out) (A0.out.later B0.out) h03.out.symm).mono ?_
  rintro e W1 ⟨rfl, b1⟩
  have B1 : Hid (Below w.heap.size w W1) := B0.out.trans (b1.mono B0.out.size)
  have c1 : W1.cell? ⟨1, 0, none⟩ = some (.iface 148 (.pointer (some a1))) := (A1.out.later B1.out).1
  have c2 : W1.cell? ⟨2, 0, none⟩ = some (.iface 148 (.pointer (some a2))) := (A2.out.later B1.out).1
  have c3 : W1.cell? ⟨3, 0, none⟩ = some (.iface 148 (.pointer (some a3))) := (A3.out.later B1.out).1
  clear b1
  go_wp2_with fail
  refine (At.is_other (w := W1) n r (A3.out.later B1.out) (A1.out.later B1.out) h13.out.symm).mono ?_
  rintro e W2 ⟨rfl, b2⟩
  have B2 : Hid (Below w.heap.size w W2) := B1.out.trans (b2.mono B1.out.size)
  have c2 : W2.cell? ⟨2, 0, none⟩ = some (.iface 148 (.pointer (some a2))) := (A2.out.later B2.out).1
  have c3 : W2.cell? ⟨3, 0, none⟩ = some (.iface 148 (.pointer (some a3))) := (A3.out.later B2.out).1
  clear b2
  go_wp2_with fail
  refine (At.is_other (w := W2) n r (A3.out.later B2.out) (A2.out.later B2.out) h23.out.symm).mono ?_
  rintro e W3 ⟨rfl, b3⟩
  have B3 : Hid (Below w.heap.size w W3) := B2.out.trans (b3.mono B2.out.size)
  have c3 : W3.cell? ⟨3, 0, none⟩ = some (.iface 148 (.pointer (some a3))) := (A3.out.later B3.out).1
  clear b3
  go_wp2_with fail
  refine (is_same n r a3 W3).mono ?_
  rintro e W4 ⟨rfl, b4⟩
  have B4 : Hid (Below w.heap.size w W4) := B3.out.trans (b4.mono B3.out.size)
  clear b4
  go_wp2
  go_ret
  exact ⟨rfl, B4.out⟩

set_option maxRecDepth 1000000 in
set_option maxHeartbeats 2000000 in
theorem code0 (w : World) {a0 a1 a2 a3 : Addr} (h : Four w a0 a1 a2 a3) : Calls Tryd.prog 55 #[.nilIface] w fun e w' => e = .returned (.int .i64 0) ∧ Below w.heap.size w w' := by
  obtain ⟨A0, A1, A2, A3, h01, h02, h03, h12, h13, h23⟩ := h
  have c0 := A0.1
  have c1 := A1.1
  have c2 := A2.1
  have c3 := A3.1
  have B0 : Hid (Below w.heap.size w w) := Below.refl _ _
  have A0 : Hid (At w 0 a0) := A0
  have A1 : Hid (At w 1 a1) := A1
  have A2 : Hid (At w 2 a2) := A2
  have A3 : Hid (At w 3 a3) := A3
  have h01 : Hid (a0 ≠ a1) := h01
  have h02 : Hid (a0 ≠ a2) := h02
  have h03 : Hid (a0 ≠ a3) := h03
  have h12 : Hid (a1 ≠ a2) := h12
  have h13 : Hid (a1 ≠ a3) := h13
  have h23 : Hid (a2 ≠ a3) := h23
  go_enter Tryd.func55, Tryd.ntmps55
  go_wp2_with fail
  refine (is_nil a0 w).mono ?_
  rintro e W1 ⟨rfl, b1⟩
  have B1 : Hid (Below w.heap.size w W1) := B0.out.trans (b1.mono B0.out.size)
  have c1 : W1.cell? ⟨1, 0, none⟩ = some (.iface 148 (.pointer (some a1))) := (A1.out.later B1.out).1
  have c2 : W1.cell? ⟨2, 0, none⟩ = some (.iface 148 (.pointer (some a2))) := (A2.out.later B1.out).1
  have c3 : W1.cell? ⟨3, 0, none⟩ = some (.iface 148 (.pointer (some a3))) := (A3.out.later B1.out).1
  clear b1
  go_wp2_with fail
  refine (is_nil a1 W1).mono ?_
  rintro e W2 ⟨rfl, b2⟩
  have B2 : Hid (Below w.heap.size w W2) := B1.out.trans (b2.mono B1.out.size)
  have c2 : W2.cell? ⟨2, 0, none⟩ = some (.iface 148 (.pointer (some a2))) := (A2.out.later B2.out).1
  have c3 : W2.cell? ⟨3, 0, none⟩ = some (.iface 148 (.pointer (some a3))) := (A3.out.later B2.out).1
  clear b2
  go_wp2_with fail
  refine (is_nil a2 W2).mono ?_
  rintro e W3 ⟨rfl, b3⟩
  have B3 : Hid (Below w.heap.size w W3) := B2.out.trans (b3.mono B2.out.size)
  have c3 : W3.cell? ⟨3, 0, none⟩ = some (.iface 148 (.pointer (some a3))) := (A3.out.later B3.out).1
  clear b3
  go_wp2_with fail
  refine (is_nil a3 W3).mono ?_
  rintro e W4 ⟨rfl, b4⟩
  have B4 : Hid (Below w.heap.size w W4) := B3.out.trans (b4.mono B3.out.size)
  clear b4
  go_wp2
  go_ret
  exact ⟨rfl, B4.out⟩

end Go.Proofs.YtccnhhdcdamgmaaDoor.Is

/- Chapter 10, the landed code: whether a head was signed; the best head. -/
namespace Go.Proofs.YtccnhhdcdamgmaaDoor.He
open Go.RowKit Go.Proofs.YtccnhhdcdamgmaaDoor.Mem Go.Proofs.YtccnhhdcdamgmaaDoor.Laws Go.Proofs.YtccnhhdcdamgmaaDoor.Bytes Go.Proofs.YtccnhhdcdamgmaaDoor.Sha Go.Proofs.YtccnhhdcdamgmaaDoor.Tr
set_option linter.unusedVariables false
set_option linter.unusedSimpArgs false

theorem pk_one {a b : Hd} (h : eqH a b = true) : pk a b = 1 := by unfold pk; rw [if_pos h]
theorem pk_not {a b : Hd} (h : ¬ eqH a b = true) : (pk a b == 1) = false := by
  unfold pk
  rw [if_neg h, beq_eq_false_iff_ne]
  split <;> decide
/-- cells that stay where one more block is made -/
theorem keepA {W : World} {p : Addr} {x : Value} (h : W.cell? p = some x) (o : Obj) : (W.alloc o).cell? p = some x := keepH h ((Below.refl _ _).alloc (Nat.le_refl _) o)

set_option maxRecDepth 1000000 in
set_option maxHeartbeats 2000000 in
theorem signed_impl (w : World) (v : Value) (t : List Hd) (h : Hd) (hs : Sh w v t) (hx : t.length ≤ 1000000000000) :
    Calls Tryd.prog 15 #[v, .agg #[.int .i64 h.n, .string h.r]] w fun e w' => e = .returned (.bool (signed t h)) ∧ Below w.heap.size w w' := by
  obtain ⟨W, hW, r0, bW, yW⟩ : ∃ W, Hid (w.alloc (.cells #[.int .i64 h.n, .string h.r] 26) = W) ∧ W.heap[w.heap.size]? = some (.cells (hc h) 26 (0, 0)) ∧ Below w.heap.size w W ∧ w.heap.size + 1 ≤ W.heap.size := ⟨_, rfl, heap_alloc_new w _, (Below.refl _ _).alloc (Nat.le_refl _) _, by simp⟩
  have HS : Hid (Sh W v t) := hs.later bW
  have HR : Hid (W.heap[w.heap.size]? = some (.cells (hc h) 26 (0, 0))) := r0
  have HBW : Hid (Below w.heap.size w W) := bW
  obtain ⟨ao, cap, rfl, hcap⟩ := Sh.form hs
  obtain ⟨S, hS⟩ : ∃ S, signed t h = S := ⟨_, rfl⟩
  rw [hS]
  have HSS : Hid (signed t h = S) := hS
  clear hs hS r0 bW
  go_enter Tryd.func15, Tryd.ntmps15
  go_wp2
  rw [hW.out]
  go_loopw [9] (fun i wr => ∃ k : Nat, k ≤ t.length ∧ i = .int .i64 (k : Int) ∧ Hid (signed (t.take k) h = false) ∧ Hid (Below W.heap.size W wr)) (fun i _ => t.length - (intOf i).toNat)
  case atStart => exact ⟨0, Nat.zero_le _, rfl, rfl, Below.refl _ _⟩
  case round =>
    obtain ⟨k, hk, rfl, HK, hB⟩ := hrel
    by_cases hlt : k < t.length
    · obtain ⟨x, hx0⟩ : ∃ x, t[k]? = some x := ⟨t[k], by simp [hlt]⟩
      obtain ⟨b, off, cap', he, _, c0, c1⟩ := Sh.at (HS.out.later hB.out) hx0
      simp only [Value.slice.injEq] at he
      obtain ⟨rfl, _, rfl⟩ := he
      have p0 : wr.cell? ⟨w.heap.size, 0, none⟩ = some (.int .i64 h.n) := row_at (rowKeep HR.out hB.out) 0
      have p1 : wr.cell? ⟨w.heap.size, 1, none⟩ = some (.string h.r) := row_at (rowKeep HR.out hB.out) 1
      have a0 := keepA p0 (.cells #[.int .i64 x.n, .string x.r] 26)
      have a1 := keepA p1 (.cells #[.int .i64 x.n, .string x.r] 26)
      have q : ∀ X, _ := fun X => pair_impl X x h
      have HA : Hid (Below W.heap.size W (wr.alloc (.cells #[.int .i64 x.n, .string x.r] 26))) := hB.out.alloc hB.out.size _
      by_cases hxh : eqH x h = true
      · have HF : Hid (S = true) := by show _ = _; rw [← HSS.out]; exact signed_yes hx0 hxh
        simp only [pk_one hxh] at q
        clear hx0 HK hxh
        go_wp2_with fail
        refine (q _).mono ?_
        rintro e w4 ⟨rfl, b4⟩
        clear a0 a1 p0 p1 c0 c1
        go_wp2
        go_ret
        exact ⟨by rw [HF.out]; rfl, HBW.out.trans ((HA.out.trans (b4.mono HA.out.size)).mono HBW.out.size)⟩
      · have hxf : eqH x h = false := by simpa using hxh
        have HN : Hid (signed (t.take (k + 1)) h = false) := by show _ = _; rw [signed_snoc hx0, HK.out, hxf]; rfl
        have pn := pk_not hxh
        obtain ⟨P, hP⟩ : ∃ P, pk x h = P := ⟨_, rfl⟩
        rw [hP] at pn
        simp only [hP] at q
        clear hx0 HK hxh hxf hP
        go_wp2_with fail
        refine (q _).mono ?_
        rintro e w4 ⟨rfl, b4⟩
        clear a0 a1 p0 p1 c0 c1
        go_wp2
        go_roundw
        case rel => exact ⟨k + 1, by omega, by go_num, HN, HA.out.trans (b4.mono HA.out.size)⟩
        case measure => simp [intOf]; omega
    · have HF : Hid (S = false) := by
        show _ = _
        have h1 := HK.out
        rw [List.take_of_length_le (by omega)] at h1
        rw [← HSS.out, h1]
      clear HK
      go_wp2
      go_ret
      exact ⟨by rw [HF.out]; rfl, HBW.out.trans (hB.out.mono HBW.out.size)⟩

theorem bestF_in (b : Hd) (r : List Hd) : bestF b r = b ∨ bestF b r ∈ r := by
  induction r generalizing b with
  | nil => exact Or.inl rfl
  | cons y r ih =>
    unfold bestF
    split
    · rcases ih y with h | h
      · exact Or.inr (by rw [h]; exact List.mem_cons_self ..)
      · exact Or.inr (List.mem_cons_of_mem _ h)
    · rcases ih b with h | h
      · exact Or.inl h
      · exact Or.inr (List.mem_cons_of_mem _ h)
theorem bestF_size (q : Hd) (l : List Hd) (hy : ∀ x ∈ q :: l, x.r.size ≤ 1000000000000) (k : Nat) : (bestF q (l.take k)).r.size ≤ 1000000000000 := by
  rcases bestF_in q (l.take k) with h | h
  · rw [h]; exact hy q (List.mem_cons_self ..)
  · exact hy _ (List.mem_cons_of_mem _ (List.mem_of_mem_take h))

end Go.Proofs.YtccnhhdcdamgmaaDoor.He

/- Chapter 11, the landed code: what a log takes, or why it does not. -/
namespace Go.Proofs.YtccnhhdcdamgmaaDoor.Lg
open Go.RowKit Go.Proofs.YtccnhhdcdamgmaaDoor.Mem Go.Proofs.YtccnhhdcdamgmaaDoor.Laws Go.Proofs.YtccnhhdcdamgmaaDoor.Bytes Go.Proofs.YtccnhhdcdamgmaaDoor.Sha Go.Proofs.YtccnhhdcdamgmaaDoor.Tr Go.Proofs.YtccnhhdcdamgmaaDoor.He
set_option linter.unusedVariables false
set_option linter.unusedSimpArgs false

/-- which error a code is told by -/
def why (a0 a1 a2 a3 : Addr) (c : Int) (a : Addr) : Prop := (c = 1 ∧ a = a0) ∨ (c = 2 ∧ a = a1) ∨ (c = 3 ∧ a = a2) ∨ (c = 4 ∧ a = a3)
theorem globLt {w : World} {g : Nat} {a : Addr} (h : Is.At w g a) : g < w.heap.size := World.block_lt_of_cell? w _ h.1

set_option maxRecDepth 1000000 in
set_option maxHeartbeats 8000000 in
theorem extended_impl (w : World) (v vt vx : Value) (l x : List ByteArray) (hd h : Hd) (t : List Hd) {a0 a1 a2 a3 : Addr} (hG : Glob w) (hF : Is.Four w a0 a1 a2 a3) (hs : Sl w v (ss l)) (ht : Sh w vt t) (hsx : Sl w vx (ss x)) (hl : l.length ≤ 1000000000) (htl : t.length ≤ 1000000000) (hx : x.length ≤ 1000000000) (hz : ∀ s ∈ l, s.size ≤ 10000000000) (hzx : ∀ s ∈ x, s.size ≤ 10000000000) (hhr : h.r.size ≤ 1000000000000) :
    Calls Tryd.prog 54 #[.agg #[v, .int .i64 hd.n, .string hd.r], vt, .agg #[.int .i64 h.n, .string h.r], vx] w fun e w' => ((∃ c a, why a0 a1 a2 a3 c a ∧ extend l hd t h x = (l, hd, c) ∧ e = .returned (.tuple #[.agg #[.slice none 0 0, .int .i64 0, .string ⟨#[]⟩], Is.refV h.n h.r a])) ∨
      (∃ v', extend l hd t h x = (l ++ x, h, 0) ∧ e = .returned (.tuple #[.agg #[v', .int .i64 h.n, .string h.r], .nilIface]) ∧ Own w' w.heap.size w'.heap.size 9 v' (ss (l ++ x)))) ∧ Below w.heap.size w w' := by
  have HS : Hid (Sl w v (ss l)) := hs
  have HSX : Hid (Sl w vx (ss x)) := hsx
  have HT : Hid (Sh w vt t) := ht
  have HG : Hid (Glob w) := hG
  have HF : Hid (Is.Four w a0 a1 a2 a3) := hF
  obtain ⟨ao0, cap0, rfl, hc0⟩ := hs.form
  obtain ⟨ao1, cap1, rfl, hc1⟩ := hsx.form
  obtain ⟨ao2, cap2, rfl, hc2⟩ := ht.form
  simp only [ss_len] at *
  clear hs hsx ht hG hF
  have B0 : Hid (Below w.heap.size w w) := Below.refl _ _
  obtain ⟨i9, hi9, hz9a, hz9b, hz9c⟩ := info_parts info9t
  obtain ⟨W1, HW1, b1, y1, hS1, r_a1, r_h1, r_res1⟩ : ∃ X, Hid ((((w.alloc (.cells #[.slice ao0 l.length cap0, .int .i64 hd.n, .string hd.r] 28)).alloc (.cells #[.int .i64 h.n, .string h.r] 26)).alloc (.cells #[.slice none 0 0, .int .i64 0, .string ⟨#[]⟩] 28)) = X) ∧ Below w.heap.size w X ∧ w.heap.size + 3 ≤ X.heap.size ∧ Hid (X.heap.size = w.heap.size + 1 + 1 + 1) ∧ Hid (X.heap[w.heap.size]? = some (.cells #[.slice ao0 l.length cap0, .int .i64 hd.n, .string hd.r] 28 (0, 0))) ∧ Hid (X.heap[w.heap.size + 1]? = some (.cells #[.int .i64 h.n, .string h.r] 26 (0, 0))) ∧ Hid (X.heap[w.heap.size + 1 + 1]? = some (.cells #[.slice none 0 0, .int .i64 0, .string ⟨#[]⟩] 28 (0, 0))) := ⟨_, rfl, ((((Below.refl _ _).alloc (Nat.le_refl _) _).alloc (by simp) _).alloc (by simp; omega) _), by simp, by show _ = _; simp, (by show _ = _; exact alloc_nth3_0 w _ _ _), (by show _ = _; exact alloc_nth3_1 w _ _ _), (by show _ = _; exact alloc_nth3_2 w _ _ _)⟩
  have z1 : w.heap.size ≤ W1.heap.size := b1.size
  have B1 : Hid (Below w.heap.size w W1) := B0.out.trans (b1.mono B0.out.size)
  have c_a1_0 : W1.cell? ⟨w.heap.size, 0, none⟩ = some (.slice ao0 l.length cap0) := row_at r_a1.out 0
  have c_a1_1 : W1.cell? ⟨w.heap.size, 1, none⟩ = some (.int .i64 hd.n) := row_at r_a1.out 1
  have c_a1_2 : W1.cell? ⟨w.heap.size, 2, none⟩ = some (.string hd.r) := row_at r_a1.out 2
  have c_h1_0 : W1.cell? ⟨w.heap.size + 1, 0, none⟩ = some (.int .i64 h.n) := row_at r_h1.out 0
  have c_h1_1 : W1.cell? ⟨w.heap.size + 1, 1, none⟩ = some (.string h.r) := row_at r_h1.out 1
  have c_res1_0 : W1.cell? ⟨w.heap.size + 1 + 1, 0, none⟩ = some (.slice none 0 0) := row_at r_res1.out 0
  have c_res1_1 : W1.cell? ⟨w.heap.size + 1 + 1, 1, none⟩ = some (.int .i64 0) := row_at r_res1.out 1
  have c_res1_2 : W1.cell? ⟨w.heap.size + 1 + 1, 2, none⟩ = some (.string ⟨#[]⟩) := row_at r_res1.out 2
  have hqA : ∀ W v1, Glob W → Sl W v1 (ss l) → _ := fun W v1 h0 h1 => logok_impl W v1 l hd h0 h1 (by omega) hz
  have hqO : ∀ W v1, Glob W → Sl W v1 (ss (l ++ x)) → _ := fun W v1 h0 h1 => logof_impl W v1 (l ++ x) h0 h1 (by rw [List.length_append]; omega) (size_app hz hzx)
  have hqH : ∀ W, _ := fun W => ok_impl W h hhr
  have hqS : ∀ W v1, Sh W v1 t → _ := fun W v1 h1 => signed_impl W v1 t h h1 (by omega)
  have hqT : ∀ W v1, Sl W v1 (ss l) → _ := fun W v1 h1 => Ed.texts_impl W v1 l h1 hl (fun s hs => by have := hz s hs; omega)
  have hqU : ∀ W v1, Sl W v1 (ss x) → _ := fun W v1 h1 => Ed.texts_impl W v1 x h1 hx (fun s hs => by have := hzx s hs; omega)
  have hall : ((l ++ x).length : Int) = ((l.length + x.length : Nat) : Int) := by rw [List.length_append]
  have HALL : Hid (((l ++ x).length : Int) = ((l.length + x.length : Nat) : Int)) := hall
  clear hall
  have hwr : IntKind.i64.wrap ((l.length : Int) + (x.length : Int)) = (l.length : Int) + (x.length : Int) := by rw [IntKind.wrap_i64]; omega
  obtain ⟨A, hA⟩ : ∃ A, logOk l hd = A := ⟨_, rfl⟩
  obtain ⟨C, hC⟩ : ∃ A, okH h = A := ⟨_, rfl⟩
  obtain ⟨D, hD⟩ : ∃ A, signed t h = A := ⟨_, rfl⟩
  obtain ⟨M, hM⟩ : ∃ A, headOf (l ++ x) = A := ⟨_, rfl⟩
  obtain ⟨E, hE⟩ : ∃ A, eqH h M = A := ⟨_, rfl⟩
  have hE2 : eqH M h = E := by
    rw [← hE]
    by_cases e9 : h = M
    · rw [e9]
    · have e8 : ¬ eqH h M = true := fun q => e9 ((eqH_iff _ _).1 q)
      have e7 : ¬ eqH M h = true := fun q => e9 ((eqH_iff _ _).1 q).symm
      rw [Bool.not_eq_true] at e8 e7
      rw [e8, e7]
  have e1 : ∀ W, _ := fun W => neqH W M h
  have e2 : ∀ W op y z xs ys, _ := fun W op y z xs ys => grdH W op y z xs ys
  simp only [hA] at hqA
  simp only [hC] at hqH
  simp only [hD] at hqS
  simp only [hM] at hqO
  simp only [hE2] at e1
  have HA : Hid (logOk l hd = A) := hA
  have HC : Hid (okH h = C) := hC
  have HD : Hid (signed t h = D) := hD
  have HE : Hid (eqH h (headOf (l ++ x)) = E) := by show _ = _; rw [hM]; exact hE
  have HM : Hid (headOf (l ++ x) = M) := hM
  clear hA hC hD hM hE hE2 hz hzx hhr
  obtain ⟨R, hR⟩ : ∃ R, extend l hd t h x = R := ⟨_, rfl⟩
  have HR : Hid (extend l hd t h x = R) := hR
  rw [hR]
  clear hR
  have hg0 := globLt HF.out.1
  have hg1 := globLt HF.out.2.1
  have hg2 := globLt HF.out.2.2.1
  have hg3 := globLt HF.out.2.2.2.1
  go_enter Tryd.func54, Tryd.ntmps54
  go_wp2_with fail
  rw [HW1.out]
  refine (hqA W1 _ (HG.out.later B1.out) (HS.out.later B1.out)).mono ?_
  rintro e W2 ⟨rfl, b2⟩
  have z2 : W1.heap.size ≤ W2.heap.size := b2.size
  have B2 : Hid (Below w.heap.size w W2) := B1.out.trans (b2.mono B1.out.size)
  have r_a2 : Hid (W2.heap[w.heap.size]? = some (.cells #[.slice ao0 l.length cap0, .int .i64 hd.n, .string hd.r] 28 (0, 0))) := rowKeep r_a1.out b2
  have r_h2 : Hid (W2.heap[w.heap.size + 1]? = some (.cells #[.int .i64 h.n, .string h.r] 26 (0, 0))) := rowKeep r_h1.out b2
  have r_res2 : Hid (W2.heap[w.heap.size + 1 + 1]? = some (.cells #[.slice none 0 0, .int .i64 0, .string ⟨#[]⟩] 28 (0, 0))) := rowKeep r_res1.out b2
  have c_a2_0 : W2.cell? ⟨w.heap.size, 0, none⟩ = some (.slice ao0 l.length cap0) := row_at r_a2.out 0
  have c_a2_1 : W2.cell? ⟨w.heap.size, 1, none⟩ = some (.int .i64 hd.n) := row_at r_a2.out 1
  have c_a2_2 : W2.cell? ⟨w.heap.size, 2, none⟩ = some (.string hd.r) := row_at r_a2.out 2
  have c_h2_0 : W2.cell? ⟨w.heap.size + 1, 0, none⟩ = some (.int .i64 h.n) := row_at r_h2.out 0
  have c_h2_1 : W2.cell? ⟨w.heap.size + 1, 1, none⟩ = some (.string h.r) := row_at r_h2.out 1
  have c_res2_0 : W2.cell? ⟨w.heap.size + 1 + 1, 0, none⟩ = some (.slice none 0 0) := row_at r_res2.out 0
  have c_res2_1 : W2.cell? ⟨w.heap.size + 1 + 1, 1, none⟩ = some (.int .i64 0) := row_at r_res2.out 1
  have c_res2_2 : W2.cell? ⟨w.heap.size + 1 + 1, 2, none⟩ = some (.string ⟨#[]⟩) := row_at r_res2.out 2
  clear r_a1 c_a1_0 c_a1_1 c_a1_2 r_h1 c_h1_0 c_h1_1 r_res1 c_res1_0 c_res1_1 c_res1_2
  cases A
  · have hA := HA.out
    have HN : Hid (R = (l, hd, 1)) := by show _ = _; rw [← HR.out]; exact extend1 (fun hk => by rw [hA] at hk; exact absurd hk.1 (by simp)) t
    go_wp2_with fail
    have cg : W2.cell? ⟨0, 0, none⟩ = some (.iface 148 (.pointer (some a0))) := (HF.out.later B2.out).1.1
    refine wp_region_held_drew (S := fun w' => w'.cell? ⟨w.heap.size + 1, 0, none⟩ = some (.int .i64 h.n) ∧ w'.cell? ⟨w.heap.size + 1, 1, none⟩ = some (.string h.r) ∧ w'.cell? ⟨0, 0, none⟩ = some (.iface 148 (.pointer (some a0)))) (by kernel_rfl) ⟨c_h2_0, c_h2_1, cg⟩ (fun hHeld => ?_)
    (refine wpAnyH_take (i := 0) (v := ?v0x1) rfl (by kernel_rfl) (by kernel_rfl) (by kernel_rfl) (fun _ _ _ h => h) (Or.inl ⟨by rfl, ?hy0x1⟩) (by assumption) ?rest0x1; case hy0x1 => (intro w hSw; (try dsimp only at hSw); go_split_ands; go_simp; (try with_reducible rfl)))
    try simp only [Act.put, List.setIfInBounds_toArray, List.set_cons_zero, List.set_cons_succ, List.getElem_toArray, List.getElem_cons_zero, List.getElem_cons_succ]
    (refine wpAnyH_take (i := 1) (v := ?v1x2) rfl (by kernel_rfl) (by kernel_rfl) (by kernel_rfl) (fun _ _ _ h => h) (Or.inl ⟨by rfl, ?hy1x2⟩) (by assumption) ?rest1x2; case hy1x2 => (intro w hSw; (try dsimp only at hSw); go_split_ands; go_simp; (try with_reducible rfl)))
    try simp only [Act.put, List.setIfInBounds_toArray, List.set_cons_zero, List.set_cons_succ, List.getElem_toArray, List.getElem_cons_zero, List.getElem_cons_succ]
    (refine wpAnyH_take (i := 2) (v := ?v2x3) rfl (by kernel_rfl) (by kernel_rfl) (by kernel_rfl) (fun _ _ _ h => h) (Or.inl ⟨by rfl, ?hy2x3⟩) (by assumption) ?rest2x3; case hy2x3 => (intro w hSw; (try dsimp only at hSw); go_split_ands; go_simp; (try with_reducible rfl)))
    try simp only [Act.put, List.setIfInBounds_toArray, List.set_cons_zero, List.set_cons_succ, List.getElem_toArray, List.getElem_cons_zero, List.getElem_cons_succ]
    (refine wpAnyH_take (i := 3) (v := ?v3x4) rfl (by kernel_rfl) (by kernel_rfl) (by kernel_rfl) (fun _ _ _ h => h) (Or.inl ⟨by rfl, ?hy3x4⟩) (by assumption) ?rest3x4; case hy3x4 => (intro w hSw; (try dsimp only at hSw); go_split_ands; go_simp; (try with_reducible rfl)))
    try simp only [Act.put, List.setIfInBounds_toArray, List.set_cons_zero, List.set_cons_succ, List.getElem_toArray, List.getElem_cons_zero, List.getElem_cons_succ]
    (refine wpAnyH_take (i := 4) (v := ?v4x5) rfl (by kernel_rfl) (by kernel_rfl) (by kernel_rfl) (fun _ _ _ h => h) (Or.inl ⟨by rfl, ?hy4x5⟩) (by assumption) ?rest4x5; case hy4x5 => (intro w hSw; (try dsimp only at hSw); go_split_ands; go_simp; (try with_reducible rfl)))
    try simp only [Act.put, List.setIfInBounds_toArray, List.set_cons_zero, List.set_cons_succ, List.getElem_toArray, List.getElem_cons_zero, List.getElem_cons_succ]
    refine wpAnyH_ready (rs := [5]) (by kernel_rfl) (by simp) ?_
    refine AllReadyH.cons rfl (fun K hK => ?_) AllReadyH.nil
    rw [if_pos (by rfl)]
    refine wp_store_row 28 _ _ rfl (w.heap.size + 1 + 1) (lc (.slice none 0 0) hd0) rfl rfl 28 _ r_res2.out (sizeL _ _) rfl (oneL _ rfl) ?_
    refine hK.out _ _ ⟨(cell_row (by show w.heap.size + 1 ≠ w.heap.size + 1 + 1; omega) hHeld.1), (cell_row (by show w.heap.size + 1 ≠ w.heap.size + 1 + 1; omega) hHeld.2.1), (cell_row (by show 0 ≠ w.heap.size + 1 + 1; omega) hHeld.2.2)⟩ (fun hHeld => ?_)
    clear hK K
    try simp only [Act.put, List.setIfInBounds_toArray, List.set_cons_zero, List.set_cons_succ, List.getElem_toArray, List.getElem_cons_zero, List.getElem_cons_succ]
    (refine wpAnyH_take (i := 6) (v := ?v6x6) rfl (by kernel_rfl) (by kernel_rfl) (by kernel_rfl) (fun _ _ _ h => h) (Or.inl ⟨by rfl, ?hy6x6⟩) (by assumption) ?rest6x6; case hy6x6 => (intro w hSw; (try dsimp only at hSw); go_split_ands; go_simp; (try with_reducible rfl)))
    try simp only [Act.put, List.setIfInBounds_toArray, List.set_cons_zero, List.set_cons_succ, List.getElem_toArray, List.getElem_cons_zero, List.getElem_cons_succ]
    refine wpAnyH_done (by kernel_rfl) ?_ _
    clear hHeld
    go_wp2
    refine bodyPost_ret (res_row_tmp rfl _ _ (w.heap.size + 1 + 1) 28 (lc (.slice none 0 0) hd0) (0, 0) _ rfl (setRow_heap _ _ _ _ _ (0, 0) r_res2.out) Tryd.underlying28 rfl (sizeL _ _)) rfl ⟨Or.inl ⟨1, a0, ?_, HN.out, rfl⟩, below_setRow (Below.drew B2.out) (by omega) _⟩
    unfold why
    simp
  · go_wp2_with fail
    refine (hqH W2).mono ?_
    rintro e W3 ⟨rfl, b3⟩
    have z3 : W2.heap.size ≤ W3.heap.size := b3.size
    have B3 : Hid (Below w.heap.size w W3) := B2.out.trans (b3.mono B2.out.size)
    have r_a3 : Hid (W3.heap[w.heap.size]? = some (.cells #[.slice ao0 l.length cap0, .int .i64 hd.n, .string hd.r] 28 (0, 0))) := rowKeep r_a2.out b3
    have r_h3 : Hid (W3.heap[w.heap.size + 1]? = some (.cells #[.int .i64 h.n, .string h.r] 26 (0, 0))) := rowKeep r_h2.out b3
    have r_res3 : Hid (W3.heap[w.heap.size + 1 + 1]? = some (.cells #[.slice none 0 0, .int .i64 0, .string ⟨#[]⟩] 28 (0, 0))) := rowKeep r_res2.out b3
    have c_a3_0 : W3.cell? ⟨w.heap.size, 0, none⟩ = some (.slice ao0 l.length cap0) := row_at r_a3.out 0
    have c_a3_1 : W3.cell? ⟨w.heap.size, 1, none⟩ = some (.int .i64 hd.n) := row_at r_a3.out 1
    have c_a3_2 : W3.cell? ⟨w.heap.size, 2, none⟩ = some (.string hd.r) := row_at r_a3.out 2
    have c_h3_0 : W3.cell? ⟨w.heap.size + 1, 0, none⟩ = some (.int .i64 h.n) := row_at r_h3.out 0
    have c_h3_1 : W3.cell? ⟨w.heap.size + 1, 1, none⟩ = some (.string h.r) := row_at r_h3.out 1
    have c_res3_0 : W3.cell? ⟨w.heap.size + 1 + 1, 0, none⟩ = some (.slice none 0 0) := row_at r_res3.out 0
    have c_res3_1 : W3.cell? ⟨w.heap.size + 1 + 1, 1, none⟩ = some (.int .i64 0) := row_at r_res3.out 1
    have c_res3_2 : W3.cell? ⟨w.heap.size + 1 + 1, 2, none⟩ = some (.string ⟨#[]⟩) := row_at r_res3.out 2
    clear r_a2 c_a2_0 c_a2_1 c_a2_2 r_h2 c_h2_0 c_h2_1 r_res2 c_res2_0 c_res2_1 c_res2_2
    cases C
    · have hC := HC.out
      have HN : Hid (R = (l, hd, 1)) := by show _ = _; rw [← HR.out]; exact extend1 (fun hk => by rw [hC] at hk; exact absurd hk.2.1 (by simp)) t
      go_wp2_with fail
      have cg : W3.cell? ⟨0, 0, none⟩ = some (.iface 148 (.pointer (some a0))) := (HF.out.later B3.out).1.1
      refine wp_region_held_drew (S := fun w' => w'.cell? ⟨w.heap.size + 1, 0, none⟩ = some (.int .i64 h.n) ∧ w'.cell? ⟨w.heap.size + 1, 1, none⟩ = some (.string h.r) ∧ w'.cell? ⟨0, 0, none⟩ = some (.iface 148 (.pointer (some a0)))) (by kernel_rfl) ⟨c_h3_0, c_h3_1, cg⟩ (fun hHeld => ?_)
      (refine wpAnyH_take (i := 0) (v := ?v0x7) rfl (by kernel_rfl) (by kernel_rfl) (by kernel_rfl) (fun _ _ _ h => h) (Or.inl ⟨by rfl, ?hy0x7⟩) (by assumption) ?rest0x7; case hy0x7 => (intro w hSw; (try dsimp only at hSw); go_split_ands; go_simp; (try with_reducible rfl)))
      try simp only [Act.put, List.setIfInBounds_toArray, List.set_cons_zero, List.set_cons_succ, List.getElem_toArray, List.getElem_cons_zero, List.getElem_cons_succ]
      (refine wpAnyH_take (i := 1) (v := ?v1x8) rfl (by kernel_rfl) (by kernel_rfl) (by kernel_rfl) (fun _ _ _ h => h) (Or.inl ⟨by rfl, ?hy1x8⟩) (by assumption) ?rest1x8; case hy1x8 => (intro w hSw; (try dsimp only at hSw); go_split_ands; go_simp; (try with_reducible rfl)))
      try simp only [Act.put, List.setIfInBounds_toArray, List.set_cons_zero, List.set_cons_succ, List.getElem_toArray, List.getElem_cons_zero, List.getElem_cons_succ]
      (refine wpAnyH_take (i := 2) (v := ?v2x9) rfl (by kernel_rfl) (by kernel_rfl) (by kernel_rfl) (fun _ _ _ h => h) (Or.inl ⟨by rfl, ?hy2x9⟩) (by assumption) ?rest2x9; case hy2x9 => (intro w hSw; (try dsimp only at hSw); go_split_ands; go_simp; (try with_reducible rfl)))
      try simp only [Act.put, List.setIfInBounds_toArray, List.set_cons_zero, List.set_cons_succ, List.getElem_toArray, List.getElem_cons_zero, List.getElem_cons_succ]
      (refine wpAnyH_take (i := 3) (v := ?v3x10) rfl (by kernel_rfl) (by kernel_rfl) (by kernel_rfl) (fun _ _ _ h => h) (Or.inl ⟨by rfl, ?hy3x10⟩) (by assumption) ?rest3x10; case hy3x10 => (intro w hSw; (try dsimp only at hSw); go_split_ands; go_simp; (try with_reducible rfl)))
      try simp only [Act.put, List.setIfInBounds_toArray, List.set_cons_zero, List.set_cons_succ, List.getElem_toArray, List.getElem_cons_zero, List.getElem_cons_succ]
      (refine wpAnyH_take (i := 4) (v := ?v4x11) rfl (by kernel_rfl) (by kernel_rfl) (by kernel_rfl) (fun _ _ _ h => h) (Or.inl ⟨by rfl, ?hy4x11⟩) (by assumption) ?rest4x11; case hy4x11 => (intro w hSw; (try dsimp only at hSw); go_split_ands; go_simp; (try with_reducible rfl)))
      try simp only [Act.put, List.setIfInBounds_toArray, List.set_cons_zero, List.set_cons_succ, List.getElem_toArray, List.getElem_cons_zero, List.getElem_cons_succ]
      refine wpAnyH_ready (rs := [5]) (by kernel_rfl) (by simp) ?_
      refine AllReadyH.cons rfl (fun K hK => ?_) AllReadyH.nil
      rw [if_pos (by rfl)]
      refine wp_store_row 28 _ _ rfl (w.heap.size + 1 + 1) (lc (.slice none 0 0) hd0) rfl rfl 28 _ r_res3.out (sizeL _ _) rfl (oneL _ rfl) ?_
      refine hK.out _ _ ⟨(cell_row (by show w.heap.size + 1 ≠ w.heap.size + 1 + 1; omega) hHeld.1), (cell_row (by show w.heap.size + 1 ≠ w.heap.size + 1 + 1; omega) hHeld.2.1), (cell_row (by show 0 ≠ w.heap.size + 1 + 1; omega) hHeld.2.2)⟩ (fun hHeld => ?_)
      clear hK K
      try simp only [Act.put, List.setIfInBounds_toArray, List.set_cons_zero, List.set_cons_succ, List.getElem_toArray, List.getElem_cons_zero, List.getElem_cons_succ]
      (refine wpAnyH_take (i := 6) (v := ?v6x12) rfl (by kernel_rfl) (by kernel_rfl) (by kernel_rfl) (fun _ _ _ h => h) (Or.inl ⟨by rfl, ?hy6x12⟩) (by assumption) ?rest6x12; case hy6x12 => (intro w hSw; (try dsimp only at hSw); go_split_ands; go_simp; (try with_reducible rfl)))
      try simp only [Act.put, List.setIfInBounds_toArray, List.set_cons_zero, List.set_cons_succ, List.getElem_toArray, List.getElem_cons_zero, List.getElem_cons_succ]
      refine wpAnyH_done (by kernel_rfl) ?_ _
      clear hHeld
      go_wp2
      refine bodyPost_ret (res_row_tmp rfl _ _ (w.heap.size + 1 + 1) 28 (lc (.slice none 0 0) hd0) (0, 0) _ rfl (setRow_heap _ _ _ _ _ (0, 0) r_res3.out) Tryd.underlying28 rfl (sizeL _ _)) rfl ⟨Or.inl ⟨1, a0, ?_, HN.out, rfl⟩, below_setRow (Below.drew B3.out) (by omega) _⟩
      unfold why
      simp
    · by_cases hn : h.n = (l.length : Int) + (x.length : Int)
      · have HK : Hid (logOk l hd = true ∧ okH h = true ∧ h.n = ((l ++ x).length : Int)) := ⟨HA.out, HC.out, by rw [HALL.out, hn]; omega⟩
        have nn : (h.n != (l.length : Int) + (x.length : Int)) = false := by simp [hn]
        have ne : (h.n == (l.length : Int) + (x.length : Int)) = true := by simp [hn]
        clear hn
        go_wp2_with fail
        refine (hqS W3 _ (HT.out.later B3.out)).mono ?_
        rintro e W4 ⟨rfl, b4⟩
        have z4 : W3.heap.size ≤ W4.heap.size := b4.size
        have B4 : Hid (Below w.heap.size w W4) := B3.out.trans (b4.mono B3.out.size)
        have r_a4 : Hid (W4.heap[w.heap.size]? = some (.cells #[.slice ao0 l.length cap0, .int .i64 hd.n, .string hd.r] 28 (0, 0))) := rowKeep r_a3.out b4
        have r_h4 : Hid (W4.heap[w.heap.size + 1]? = some (.cells #[.int .i64 h.n, .string h.r] 26 (0, 0))) := rowKeep r_h3.out b4
        have r_res4 : Hid (W4.heap[w.heap.size + 1 + 1]? = some (.cells #[.slice none 0 0, .int .i64 0, .string ⟨#[]⟩] 28 (0, 0))) := rowKeep r_res3.out b4
        have c_a4_0 : W4.cell? ⟨w.heap.size, 0, none⟩ = some (.slice ao0 l.length cap0) := row_at r_a4.out 0
        have c_a4_1 : W4.cell? ⟨w.heap.size, 1, none⟩ = some (.int .i64 hd.n) := row_at r_a4.out 1
        have c_a4_2 : W4.cell? ⟨w.heap.size, 2, none⟩ = some (.string hd.r) := row_at r_a4.out 2
        have c_h4_0 : W4.cell? ⟨w.heap.size + 1, 0, none⟩ = some (.int .i64 h.n) := row_at r_h4.out 0
        have c_h4_1 : W4.cell? ⟨w.heap.size + 1, 1, none⟩ = some (.string h.r) := row_at r_h4.out 1
        have c_res4_0 : W4.cell? ⟨w.heap.size + 1 + 1, 0, none⟩ = some (.slice none 0 0) := row_at r_res4.out 0
        have c_res4_1 : W4.cell? ⟨w.heap.size + 1 + 1, 1, none⟩ = some (.int .i64 0) := row_at r_res4.out 1
        have c_res4_2 : W4.cell? ⟨w.heap.size + 1 + 1, 2, none⟩ = some (.string ⟨#[]⟩) := row_at r_res4.out 2
        clear r_a3 c_a3_0 c_a3_1 c_a3_2 r_h3 c_h3_0 c_h3_1 r_res3 c_res3_0 c_res3_1 c_res3_2
        cases D
        · have HN : Hid (R = (l, hd, 2)) := by show _ = _; rw [← HR.out]; exact extend2 HK.out HD.out
          go_wp2_with fail
          have cg : W4.cell? ⟨1, 0, none⟩ = some (.iface 148 (.pointer (some a1))) := (HF.out.later B4.out).2.1.1
          refine wp_region_held_drew (S := fun w' => w'.cell? ⟨w.heap.size + 1, 0, none⟩ = some (.int .i64 h.n) ∧ w'.cell? ⟨w.heap.size + 1, 1, none⟩ = some (.string h.r) ∧ w'.cell? ⟨1, 0, none⟩ = some (.iface 148 (.pointer (some a1)))) (by kernel_rfl) ⟨c_h4_0, c_h4_1, cg⟩ (fun hHeld => ?_)
          (refine wpAnyH_take (i := 0) (v := ?v0x13) rfl (by kernel_rfl) (by kernel_rfl) (by kernel_rfl) (fun _ _ _ h => h) (Or.inl ⟨by rfl, ?hy0x13⟩) (by assumption) ?rest0x13; case hy0x13 => (intro w hSw; (try dsimp only at hSw); go_split_ands; go_simp; (try with_reducible rfl)))
          try simp only [Act.put, List.setIfInBounds_toArray, List.set_cons_zero, List.set_cons_succ, List.getElem_toArray, List.getElem_cons_zero, List.getElem_cons_succ]
          (refine wpAnyH_take (i := 1) (v := ?v1x14) rfl (by kernel_rfl) (by kernel_rfl) (by kernel_rfl) (fun _ _ _ h => h) (Or.inl ⟨by rfl, ?hy1x14⟩) (by assumption) ?rest1x14; case hy1x14 => (intro w hSw; (try dsimp only at hSw); go_split_ands; go_simp; (try with_reducible rfl)))
          try simp only [Act.put, List.setIfInBounds_toArray, List.set_cons_zero, List.set_cons_succ, List.getElem_toArray, List.getElem_cons_zero, List.getElem_cons_succ]
          (refine wpAnyH_take (i := 2) (v := ?v2x15) rfl (by kernel_rfl) (by kernel_rfl) (by kernel_rfl) (fun _ _ _ h => h) (Or.inl ⟨by rfl, ?hy2x15⟩) (by assumption) ?rest2x15; case hy2x15 => (intro w hSw; (try dsimp only at hSw); go_split_ands; go_simp; (try with_reducible rfl)))
          try simp only [Act.put, List.setIfInBounds_toArray, List.set_cons_zero, List.set_cons_succ, List.getElem_toArray, List.getElem_cons_zero, List.getElem_cons_succ]
          (refine wpAnyH_take (i := 3) (v := ?v3x16) rfl (by kernel_rfl) (by kernel_rfl) (by kernel_rfl) (fun _ _ _ h => h) (Or.inl ⟨by rfl, ?hy3x16⟩) (by assumption) ?rest3x16; case hy3x16 => (intro w hSw; (try dsimp only at hSw); go_split_ands; go_simp; (try with_reducible rfl)))
          try simp only [Act.put, List.setIfInBounds_toArray, List.set_cons_zero, List.set_cons_succ, List.getElem_toArray, List.getElem_cons_zero, List.getElem_cons_succ]
          (refine wpAnyH_take (i := 4) (v := ?v4x17) rfl (by kernel_rfl) (by kernel_rfl) (by kernel_rfl) (fun _ _ _ h => h) (Or.inl ⟨by rfl, ?hy4x17⟩) (by assumption) ?rest4x17; case hy4x17 => (intro w hSw; (try dsimp only at hSw); go_split_ands; go_simp; (try with_reducible rfl)))
          try simp only [Act.put, List.setIfInBounds_toArray, List.set_cons_zero, List.set_cons_succ, List.getElem_toArray, List.getElem_cons_zero, List.getElem_cons_succ]
          refine wpAnyH_ready (rs := [5]) (by kernel_rfl) (by simp) ?_
          refine AllReadyH.cons rfl (fun K hK => ?_) AllReadyH.nil
          rw [if_pos (by rfl)]
          refine wp_store_row 28 _ _ rfl (w.heap.size + 1 + 1) (lc (.slice none 0 0) hd0) rfl rfl 28 _ r_res4.out (sizeL _ _) rfl (oneL _ rfl) ?_
          refine hK.out _ _ ⟨(cell_row (by show w.heap.size + 1 ≠ w.heap.size + 1 + 1; omega) hHeld.1), (cell_row (by show w.heap.size + 1 ≠ w.heap.size + 1 + 1; omega) hHeld.2.1), (cell_row (by show 1 ≠ w.heap.size + 1 + 1; omega) hHeld.2.2)⟩ (fun hHeld => ?_)
          clear hK K
          try simp only [Act.put, List.setIfInBounds_toArray, List.set_cons_zero, List.set_cons_succ, List.getElem_toArray, List.getElem_cons_zero, List.getElem_cons_succ]
          (refine wpAnyH_take (i := 6) (v := ?v6x18) rfl (by kernel_rfl) (by kernel_rfl) (by kernel_rfl) (fun _ _ _ h => h) (Or.inl ⟨by rfl, ?hy6x18⟩) (by assumption) ?rest6x18; case hy6x18 => (intro w hSw; (try dsimp only at hSw); go_split_ands; go_simp; (try with_reducible rfl)))
          try simp only [Act.put, List.setIfInBounds_toArray, List.set_cons_zero, List.set_cons_succ, List.getElem_toArray, List.getElem_cons_zero, List.getElem_cons_succ]
          refine wpAnyH_done (by kernel_rfl) ?_ _
          clear hHeld
          go_wp2
          refine bodyPost_ret (res_row_tmp rfl _ _ (w.heap.size + 1 + 1) 28 (lc (.slice none 0 0) hd0) (0, 0) _ rfl (setRow_heap _ _ _ _ _ (0, 0) r_res4.out) Tryd.underlying28 rfl (sizeL _ _)) rfl ⟨Or.inl ⟨2, a1, ?_, HN.out, rfl⟩, below_setRow (Below.drew B4.out) (by omega) _⟩
          unfold why
          simp
        · by_cases hx0 : x.length = 0
          · have gx : (x.length : Int) = 0 := by omega
            have HX0 : Hid (x.length = 0) := hx0
            clear hx0
            have HN : Hid (R = (l, hd, 3)) := by show _ = _; rw [← HR.out]; exact extend3 HK.out HD.out HX0.out
            go_wp2_with fail
            have cg : W4.cell? ⟨2, 0, none⟩ = some (.iface 148 (.pointer (some a2))) := (HF.out.later B4.out).2.2.1.1
            refine wp_region_held_drew (S := fun w' => w'.cell? ⟨w.heap.size + 1, 0, none⟩ = some (.int .i64 h.n) ∧ w'.cell? ⟨w.heap.size + 1, 1, none⟩ = some (.string h.r) ∧ w'.cell? ⟨2, 0, none⟩ = some (.iface 148 (.pointer (some a2)))) (by kernel_rfl) ⟨c_h4_0, c_h4_1, cg⟩ (fun hHeld => ?_)
            (refine wpAnyH_take (i := 0) (v := ?v0x19) rfl (by kernel_rfl) (by kernel_rfl) (by kernel_rfl) (fun _ _ _ h => h) (Or.inl ⟨by rfl, ?hy0x19⟩) (by assumption) ?rest0x19; case hy0x19 => (intro w hSw; (try dsimp only at hSw); go_split_ands; go_simp; (try with_reducible rfl)))
            try simp only [Act.put, List.setIfInBounds_toArray, List.set_cons_zero, List.set_cons_succ, List.getElem_toArray, List.getElem_cons_zero, List.getElem_cons_succ]
            (refine wpAnyH_take (i := 1) (v := ?v1x20) rfl (by kernel_rfl) (by kernel_rfl) (by kernel_rfl) (fun _ _ _ h => h) (Or.inl ⟨by rfl, ?hy1x20⟩) (by assumption) ?rest1x20; case hy1x20 => (intro w hSw; (try dsimp only at hSw); go_split_ands; go_simp; (try with_reducible rfl)))
            try simp only [Act.put, List.setIfInBounds_toArray, List.set_cons_zero, List.set_cons_succ, List.getElem_toArray, List.getElem_cons_zero, List.getElem_cons_succ]
            (refine wpAnyH_take (i := 2) (v := ?v2x21) rfl (by kernel_rfl) (by kernel_rfl) (by kernel_rfl) (fun _ _ _ h => h) (Or.inl ⟨by rfl, ?hy2x21⟩) (by assumption) ?rest2x21; case hy2x21 => (intro w hSw; (try dsimp only at hSw); go_split_ands; go_simp; (try with_reducible rfl)))
            try simp only [Act.put, List.setIfInBounds_toArray, List.set_cons_zero, List.set_cons_succ, List.getElem_toArray, List.getElem_cons_zero, List.getElem_cons_succ]
            (refine wpAnyH_take (i := 3) (v := ?v3x22) rfl (by kernel_rfl) (by kernel_rfl) (by kernel_rfl) (fun _ _ _ h => h) (Or.inl ⟨by rfl, ?hy3x22⟩) (by assumption) ?rest3x22; case hy3x22 => (intro w hSw; (try dsimp only at hSw); go_split_ands; go_simp; (try with_reducible rfl)))
            try simp only [Act.put, List.setIfInBounds_toArray, List.set_cons_zero, List.set_cons_succ, List.getElem_toArray, List.getElem_cons_zero, List.getElem_cons_succ]
            (refine wpAnyH_take (i := 4) (v := ?v4x23) rfl (by kernel_rfl) (by kernel_rfl) (by kernel_rfl) (fun _ _ _ h => h) (Or.inl ⟨by rfl, ?hy4x23⟩) (by assumption) ?rest4x23; case hy4x23 => (intro w hSw; (try dsimp only at hSw); go_split_ands; go_simp; (try with_reducible rfl)))
            try simp only [Act.put, List.setIfInBounds_toArray, List.set_cons_zero, List.set_cons_succ, List.getElem_toArray, List.getElem_cons_zero, List.getElem_cons_succ]
            refine wpAnyH_ready (rs := [5]) (by kernel_rfl) (by simp) ?_
            refine AllReadyH.cons rfl (fun K hK => ?_) AllReadyH.nil
            rw [if_pos (by rfl)]
            refine wp_store_row 28 _ _ rfl (w.heap.size + 1 + 1) (lc (.slice none 0 0) hd0) rfl rfl 28 _ r_res4.out (sizeL _ _) rfl (oneL _ rfl) ?_
            refine hK.out _ _ ⟨(cell_row (by show w.heap.size + 1 ≠ w.heap.size + 1 + 1; omega) hHeld.1), (cell_row (by show w.heap.size + 1 ≠ w.heap.size + 1 + 1; omega) hHeld.2.1), (cell_row (by show 2 ≠ w.heap.size + 1 + 1; omega) hHeld.2.2)⟩ (fun hHeld => ?_)
            clear hK K
            try simp only [Act.put, List.setIfInBounds_toArray, List.set_cons_zero, List.set_cons_succ, List.getElem_toArray, List.getElem_cons_zero, List.getElem_cons_succ]
            (refine wpAnyH_take (i := 6) (v := ?v6x24) rfl (by kernel_rfl) (by kernel_rfl) (by kernel_rfl) (fun _ _ _ h => h) (Or.inl ⟨by rfl, ?hy6x24⟩) (by assumption) ?rest6x24; case hy6x24 => (intro w hSw; (try dsimp only at hSw); go_split_ands; go_simp; (try with_reducible rfl)))
            try simp only [Act.put, List.setIfInBounds_toArray, List.set_cons_zero, List.set_cons_succ, List.getElem_toArray, List.getElem_cons_zero, List.getElem_cons_succ]
            refine wpAnyH_done (by kernel_rfl) ?_ _
            clear hHeld
            go_wp2
            refine bodyPost_ret (res_row_tmp rfl _ _ (w.heap.size + 1 + 1) 28 (lc (.slice none 0 0) hd0) (0, 0) _ rfl (setRow_heap _ _ _ _ _ (0, 0) r_res4.out) Tryd.underlying28 rfl (sizeL _ _)) rfl ⟨Or.inl ⟨3, a2, ?_, HN.out, rfl⟩, below_setRow (Below.drew B4.out) (by omega) _⟩
            unfold why
            simp
          · have gx : ¬ (x.length : Int) = 0 := by omega
            go_wp2_with fail
            refine (hqT W4 _ (HS.out.later B4.out)).mono ?_
            rintro e W5 ⟨v_p, rfl, o_p5, b5⟩
            obtain ⟨ao_p, L_p, cap_p, rfl, hL_p, hM_p⟩ := o_p5.form
            have o_p5 : Hid (Own W5 W4.heap.size W5.heap.size 9 (.slice ao_p L_p cap_p) (ss l)) := o_p5
            clear hL_p hM_p
            have z5 : W4.heap.size ≤ W5.heap.size := b5.size
            have B5 : Hid (Below w.heap.size w W5) := B4.out.trans (b5.mono B4.out.size)
            have r_a5 : Hid (W5.heap[w.heap.size]? = some (.cells #[.slice ao0 l.length cap0, .int .i64 hd.n, .string hd.r] 28 (0, 0))) := rowKeep r_a4.out b5
            have r_h5 : Hid (W5.heap[w.heap.size + 1]? = some (.cells #[.int .i64 h.n, .string h.r] 26 (0, 0))) := rowKeep r_h4.out b5
            have r_res5 : Hid (W5.heap[w.heap.size + 1 + 1]? = some (.cells #[.slice none 0 0, .int .i64 0, .string ⟨#[]⟩] 28 (0, 0))) := rowKeep r_res4.out b5
            have c_a5_0 : W5.cell? ⟨w.heap.size, 0, none⟩ = some (.slice ao0 l.length cap0) := row_at r_a5.out 0
            have c_a5_1 : W5.cell? ⟨w.heap.size, 1, none⟩ = some (.int .i64 hd.n) := row_at r_a5.out 1
            have c_a5_2 : W5.cell? ⟨w.heap.size, 2, none⟩ = some (.string hd.r) := row_at r_a5.out 2
            have c_h5_0 : W5.cell? ⟨w.heap.size + 1, 0, none⟩ = some (.int .i64 h.n) := row_at r_h5.out 0
            have c_h5_1 : W5.cell? ⟨w.heap.size + 1, 1, none⟩ = some (.string h.r) := row_at r_h5.out 1
            have c_res5_0 : W5.cell? ⟨w.heap.size + 1 + 1, 0, none⟩ = some (.slice none 0 0) := row_at r_res5.out 0
            have c_res5_1 : W5.cell? ⟨w.heap.size + 1 + 1, 1, none⟩ = some (.int .i64 0) := row_at r_res5.out 1
            have c_res5_2 : W5.cell? ⟨w.heap.size + 1 + 1, 2, none⟩ = some (.string ⟨#[]⟩) := row_at r_res5.out 2
            clear r_a4 c_a4_0 c_a4_1 c_a4_2 r_h4 c_h4_0 c_h4_1 r_res4 c_res4_0 c_res4_1 c_res4_2
            go_wp2_with fail
            refine (hqU W5 _ (HSX.out.later B5.out)).mono ?_
            rintro e W6 ⟨v_q, rfl, o_q6, b6⟩
            obtain ⟨ao_q, L_q, cap_q, rfl, hL_q, hM_q⟩ := o_q6.form
            have o_q6 : Hid (Own W6 W5.heap.size W6.heap.size 9 (.slice ao_q L_q cap_q) (ss x)) := o_q6
            clear hL_q hM_q
            have z6 : W5.heap.size ≤ W6.heap.size := b6.size
            have B6 : Hid (Below w.heap.size w W6) := B5.out.trans (b6.mono B5.out.size)
            have r_a6 : Hid (W6.heap[w.heap.size]? = some (.cells #[.slice ao0 l.length cap0, .int .i64 hd.n, .string hd.r] 28 (0, 0))) := rowKeep r_a5.out b6
            have r_h6 : Hid (W6.heap[w.heap.size + 1]? = some (.cells #[.int .i64 h.n, .string h.r] 26 (0, 0))) := rowKeep r_h5.out b6
            have r_res6 : Hid (W6.heap[w.heap.size + 1 + 1]? = some (.cells #[.slice none 0 0, .int .i64 0, .string ⟨#[]⟩] 28 (0, 0))) := rowKeep r_res5.out b6
            have o_p6 : Hid (Own W6 (W4.heap.size) (W5.heap.size) 9 (.slice ao_p L_p cap_p) (ss l)) := Own.later o_p5.out b6 (by omega)
            have c_a6_0 : W6.cell? ⟨w.heap.size, 0, none⟩ = some (.slice ao0 l.length cap0) := row_at r_a6.out 0
            have c_a6_1 : W6.cell? ⟨w.heap.size, 1, none⟩ = some (.int .i64 hd.n) := row_at r_a6.out 1
            have c_a6_2 : W6.cell? ⟨w.heap.size, 2, none⟩ = some (.string hd.r) := row_at r_a6.out 2
            have c_h6_0 : W6.cell? ⟨w.heap.size + 1, 0, none⟩ = some (.int .i64 h.n) := row_at r_h6.out 0
            have c_h6_1 : W6.cell? ⟨w.heap.size + 1, 1, none⟩ = some (.string h.r) := row_at r_h6.out 1
            have c_res6_0 : W6.cell? ⟨w.heap.size + 1 + 1, 0, none⟩ = some (.slice none 0 0) := row_at r_res6.out 0
            have c_res6_1 : W6.cell? ⟨w.heap.size + 1 + 1, 1, none⟩ = some (.int .i64 0) := row_at r_res6.out 1
            have c_res6_2 : W6.cell? ⟨w.heap.size + 1 + 1, 2, none⟩ = some (.string ⟨#[]⟩) := row_at r_res6.out 2
            clear r_a5 c_a5_0 c_a5_1 c_a5_2 r_h5 c_h5_0 c_h5_1 r_res5 c_res5_0 c_res5_1 c_res5_2 o_p5
            have c6_7 : (ss l).length + (ss x).length ≤ maxLen := by rw [ss_len, ss_len]; unfold maxLen; (try simp only [List.length_nil]); omega
            have c7_7 : ((ss l).length + (ss x).length) * 16 ≤ 140737488355328 := by rw [ss_len, ss_len]; (try simp only [List.length_nil]); omega
            have sE7 : Hid (Sl W6 _ (ss x)) := o_q6.out.sl
            go_wp2_with (at_builtin; go_must (refine wpl_app _ rfl (.tmp 54) (.tmp 56) 24 rfl 9 i9 (.string ⟨#[]⟩) 16 Tryd.underlying24 hi9 hz9a hz9b hz9c rfl (W4.heap.size) _ (ss l) rfl (Own.mono o_p6.out (Nat.le_refl _) (by omega)) _ rfl (ss x) sE7.out (ss_one x) c6_7 c7_7 (by omega) ?_))
            intro v_all W7 o_all7 _ g7
            have o_all7 : Own W7 (W4.heap.size) W7.heap.size 9 v_all (ss (l ++ x)) := by show Own _ _ _ _ _ _; rw [ss_app]; exact o_all7
            have o_all7h : Hid (Own W7 (W4.heap.size) W7.heap.size 9 v_all (ss (l ++ x))) := o_all7
            clear o_all7
            have o_all7 := o_all7h
            clear o_all7h
            obtain ⟨ao_all, L_all, cap_all, rfl, _, _⟩ := Mem.Own.form o_all7.out
            have z7 : W6.heap.size ≤ W7.heap.size := g7.size
            have B7 : Hid (Below w.heap.size w W7) := belowGro B6.out g7 B6.out.size (Own.low o_p6.out (by have := B6.out.size; omega))
            have r_a7 : Hid (W7.heap[w.heap.size]? = some (.cells #[.slice ao0 l.length cap0, .int .i64 hd.n, .string hd.r] 28 (0, 0))) := rowGro r_a6.out g7 (Own.neRow o_p6.out r_a6.out (by decide))
            have r_h7 : Hid (W7.heap[w.heap.size + 1]? = some (.cells #[.int .i64 h.n, .string h.r] 26 (0, 0))) := rowGro r_h6.out g7 (Own.neRow o_p6.out r_h6.out (by decide))
            have r_res7 : Hid (W7.heap[w.heap.size + 1 + 1]? = some (.cells #[.slice none 0 0, .int .i64 0, .string ⟨#[]⟩] 28 (0, 0))) := rowGro r_res6.out g7 (Own.neRow o_p6.out r_res6.out (by decide))
            have o_q7 : Hid (Own W7 (W5.heap.size) (W6.heap.size) 9 (.slice ao_q L_q cap_q) (ss x)) := Own.gro o_q6.out g7 (Own.neFar o_p6.out o_q6.out (by omega))
            have c_a7_0 : W7.cell? ⟨w.heap.size, 0, none⟩ = some (.slice ao0 l.length cap0) := row_at r_a7.out 0
            have c_a7_1 : W7.cell? ⟨w.heap.size, 1, none⟩ = some (.int .i64 hd.n) := row_at r_a7.out 1
            have c_a7_2 : W7.cell? ⟨w.heap.size, 2, none⟩ = some (.string hd.r) := row_at r_a7.out 2
            have c_h7_0 : W7.cell? ⟨w.heap.size + 1, 0, none⟩ = some (.int .i64 h.n) := row_at r_h7.out 0
            have c_h7_1 : W7.cell? ⟨w.heap.size + 1, 1, none⟩ = some (.string h.r) := row_at r_h7.out 1
            have c_res7_0 : W7.cell? ⟨w.heap.size + 1 + 1, 0, none⟩ = some (.slice none 0 0) := row_at r_res7.out 0
            have c_res7_1 : W7.cell? ⟨w.heap.size + 1 + 1, 1, none⟩ = some (.int .i64 0) := row_at r_res7.out 1
            have c_res7_2 : W7.cell? ⟨w.heap.size + 1 + 1, 2, none⟩ = some (.string ⟨#[]⟩) := row_at r_res7.out 2
            clear r_a6 c_a6_0 c_a6_1 c_a6_2 r_h6 c_h6_0 c_h6_1 r_res6 c_res6_0 c_res6_1 c_res6_2 o_p6 o_q6
            clear g7 sE7 c6_7 c7_7
            go_wp2_with fail
            refine (hqO W7 _ (HG.out.later B7.out) o_all7.out.sl).mono ?_
            rintro e W8 ⟨rfl, b8⟩
            have z8 : W7.heap.size ≤ W8.heap.size := b8.size
            have B8 : Hid (Below w.heap.size w W8) := B7.out.trans (b8.mono B7.out.size)
            have r_a8 : Hid (W8.heap[w.heap.size]? = some (.cells #[.slice ao0 l.length cap0, .int .i64 hd.n, .string hd.r] 28 (0, 0))) := rowKeep r_a7.out b8
            have r_h8 : Hid (W8.heap[w.heap.size + 1]? = some (.cells #[.int .i64 h.n, .string h.r] 26 (0, 0))) := rowKeep r_h7.out b8
            have r_res8 : Hid (W8.heap[w.heap.size + 1 + 1]? = some (.cells #[.slice none 0 0, .int .i64 0, .string ⟨#[]⟩] 28 (0, 0))) := rowKeep r_res7.out b8
            have o_q8 : Hid (Own W8 (W5.heap.size) (W6.heap.size) 9 (.slice ao_q L_q cap_q) (ss x)) := Own.later o_q7.out b8 (by omega)
            have o_all8 : Hid (Own W8 (W4.heap.size) (W7.heap.size) 9 (.slice ao_all L_all cap_all) (ss (l ++ x))) := Own.later o_all7.out b8 (by omega)
            have c_a8_0 : W8.cell? ⟨w.heap.size, 0, none⟩ = some (.slice ao0 l.length cap0) := row_at r_a8.out 0
            have c_a8_1 : W8.cell? ⟨w.heap.size, 1, none⟩ = some (.int .i64 hd.n) := row_at r_a8.out 1
            have c_a8_2 : W8.cell? ⟨w.heap.size, 2, none⟩ = some (.string hd.r) := row_at r_a8.out 2
            have c_h8_0 : W8.cell? ⟨w.heap.size + 1, 0, none⟩ = some (.int .i64 h.n) := row_at r_h8.out 0
            have c_h8_1 : W8.cell? ⟨w.heap.size + 1, 1, none⟩ = some (.string h.r) := row_at r_h8.out 1
            have c_res8_0 : W8.cell? ⟨w.heap.size + 1 + 1, 0, none⟩ = some (.slice none 0 0) := row_at r_res8.out 0
            have c_res8_1 : W8.cell? ⟨w.heap.size + 1 + 1, 1, none⟩ = some (.int .i64 0) := row_at r_res8.out 1
            have c_res8_2 : W8.cell? ⟨w.heap.size + 1 + 1, 2, none⟩ = some (.string ⟨#[]⟩) := row_at r_res8.out 2
            clear r_a7 c_a7_0 c_a7_1 c_a7_2 r_h7 c_h7_0 c_h7_1 r_res7 c_res7_0 c_res7_1 c_res7_2 o_q7 o_all7
            have a_a8_0 : ∀ o, (W8.alloc o).cell? ⟨w.heap.size, 0, none⟩ = some (.slice ao0 l.length cap0) := fun o => keepR c_a8_0 ((Below.refl _ _).alloc (Nat.le_refl _) o)
            have a_a8_1 : ∀ o, (W8.alloc o).cell? ⟨w.heap.size, 1, none⟩ = some (.int .i64 hd.n) := fun o => keepR c_a8_1 ((Below.refl _ _).alloc (Nat.le_refl _) o)
            have a_a8_2 : ∀ o, (W8.alloc o).cell? ⟨w.heap.size, 2, none⟩ = some (.string hd.r) := fun o => keepR c_a8_2 ((Below.refl _ _).alloc (Nat.le_refl _) o)
            have a_h8_0 : ∀ o, (W8.alloc o).cell? ⟨w.heap.size + 1, 0, none⟩ = some (.int .i64 h.n) := fun o => keepR c_h8_0 ((Below.refl _ _).alloc (Nat.le_refl _) o)
            have a_h8_1 : ∀ o, (W8.alloc o).cell? ⟨w.heap.size + 1, 1, none⟩ = some (.string h.r) := fun o => keepR c_h8_1 ((Below.refl _ _).alloc (Nat.le_refl _) o)
            have a_res8_0 : ∀ o, (W8.alloc o).cell? ⟨w.heap.size + 1 + 1, 0, none⟩ = some (.slice none 0 0) := fun o => keepR c_res8_0 ((Below.refl _ _).alloc (Nat.le_refl _) o)
            have a_res8_1 : ∀ o, (W8.alloc o).cell? ⟨w.heap.size + 1 + 1, 1, none⟩ = some (.int .i64 0) := fun o => keepR c_res8_1 ((Below.refl _ _).alloc (Nat.le_refl _) o)
            have a_res8_2 : ∀ o, (W8.alloc o).cell? ⟨w.heap.size + 1 + 1, 2, none⟩ = some (.string ⟨#[]⟩) := fun o => keepR c_res8_2 ((Below.refl _ _).alloc (Nat.le_refl _) o)
            obtain ⟨W9, HW9, b9, y9, hS9, r_new9⟩ : ∃ X, Hid ((W8.alloc (.cells #[.slice ao_all L_all cap_all, .int .i64 M.n, .string M.r] 28)) = X) ∧ Below W8.heap.size W8 X ∧ W8.heap.size + 1 ≤ X.heap.size ∧ Hid (X.heap.size = W8.heap.size + 1) ∧ Hid (X.heap[W8.heap.size]? = some (.cells #[.slice ao_all L_all cap_all, .int .i64 M.n, .string M.r] 28 (0, 0))) := ⟨_, rfl, ((Below.refl _ _).alloc (Nat.le_refl _) _), by simp, by show _ = _; simp, (by show _ = _; exact alloc_nth1_0 W8 _)⟩
            have z9 : W8.heap.size ≤ W9.heap.size := b9.size
            have B9 : Hid (Below w.heap.size w W9) := B8.out.trans (b9.mono B8.out.size)
            have r_a9 : Hid (W9.heap[w.heap.size]? = some (.cells #[.slice ao0 l.length cap0, .int .i64 hd.n, .string hd.r] 28 (0, 0))) := rowKeep r_a8.out b9
            have r_h9 : Hid (W9.heap[w.heap.size + 1]? = some (.cells #[.int .i64 h.n, .string h.r] 26 (0, 0))) := rowKeep r_h8.out b9
            have r_res9 : Hid (W9.heap[w.heap.size + 1 + 1]? = some (.cells #[.slice none 0 0, .int .i64 0, .string ⟨#[]⟩] 28 (0, 0))) := rowKeep r_res8.out b9
            have o_q9 : Hid (Own W9 (W5.heap.size) (W6.heap.size) 9 (.slice ao_q L_q cap_q) (ss x)) := Own.later o_q8.out b9 (by omega)
            have o_all9 : Hid (Own W9 (W4.heap.size) (W7.heap.size) 9 (.slice ao_all L_all cap_all) (ss (l ++ x))) := Own.later o_all8.out b9 (by omega)
            have c_a9_0 : W9.cell? ⟨w.heap.size, 0, none⟩ = some (.slice ao0 l.length cap0) := row_at r_a9.out 0
            have c_a9_1 : W9.cell? ⟨w.heap.size, 1, none⟩ = some (.int .i64 hd.n) := row_at r_a9.out 1
            have c_a9_2 : W9.cell? ⟨w.heap.size, 2, none⟩ = some (.string hd.r) := row_at r_a9.out 2
            have c_h9_0 : W9.cell? ⟨w.heap.size + 1, 0, none⟩ = some (.int .i64 h.n) := row_at r_h9.out 0
            have c_h9_1 : W9.cell? ⟨w.heap.size + 1, 1, none⟩ = some (.string h.r) := row_at r_h9.out 1
            have c_res9_0 : W9.cell? ⟨w.heap.size + 1 + 1, 0, none⟩ = some (.slice none 0 0) := row_at r_res9.out 0
            have c_res9_1 : W9.cell? ⟨w.heap.size + 1 + 1, 1, none⟩ = some (.int .i64 0) := row_at r_res9.out 1
            have c_res9_2 : W9.cell? ⟨w.heap.size + 1 + 1, 2, none⟩ = some (.string ⟨#[]⟩) := row_at r_res9.out 2
            have c_new9_0 : W9.cell? ⟨W8.heap.size, 0, none⟩ = some (.slice ao_all L_all cap_all) := row_at r_new9.out 0
            have c_new9_1 : W9.cell? ⟨W8.heap.size, 1, none⟩ = some (.int .i64 M.n) := row_at r_new9.out 1
            have c_new9_2 : W9.cell? ⟨W8.heap.size, 2, none⟩ = some (.string M.r) := row_at r_new9.out 2
            clear r_a8 c_a8_0 c_a8_1 c_a8_2 r_h8 c_h8_0 c_h8_1 r_res8 c_res8_0 c_res8_1 c_res8_2 o_q8 o_all8
            cases E
            · have HN : Hid (R = (l, hd, 4)) := by show _ = _; rw [← HR.out]; exact extend4 HK.out HD.out hx0 HE.out
              go_wp2_with fail
              rw [HW9.out]
              clear a_a8_0 a_a8_1 a_a8_2 a_h8_0 a_h8_1 a_res8_0 a_res8_1 a_res8_2
              have cg : W9.cell? ⟨3, 0, none⟩ = some (.iface 148 (.pointer (some a3))) := (HF.out.later B9.out).2.2.2.1.1
              refine wp_region_held_drew (S := fun w' => w'.cell? ⟨w.heap.size + 1, 0, none⟩ = some (.int .i64 h.n) ∧ w'.cell? ⟨w.heap.size + 1, 1, none⟩ = some (.string h.r) ∧ w'.cell? ⟨3, 0, none⟩ = some (.iface 148 (.pointer (some a3)))) (by kernel_rfl) ⟨c_h9_0, c_h9_1, cg⟩ (fun hHeld => ?_)
              (refine wpAnyH_take (i := 0) (v := ?v0x25) rfl (by kernel_rfl) (by kernel_rfl) (by kernel_rfl) (fun _ _ _ h => h) (Or.inl ⟨by rfl, ?hy0x25⟩) (by assumption) ?rest0x25; case hy0x25 => (intro w hSw; (try dsimp only at hSw); go_split_ands; go_simp; (try with_reducible rfl)))
              try simp only [Act.put, List.setIfInBounds_toArray, List.set_cons_zero, List.set_cons_succ, List.getElem_toArray, List.getElem_cons_zero, List.getElem_cons_succ]
              (refine wpAnyH_take (i := 1) (v := ?v1x26) rfl (by kernel_rfl) (by kernel_rfl) (by kernel_rfl) (fun _ _ _ h => h) (Or.inl ⟨by rfl, ?hy1x26⟩) (by assumption) ?rest1x26; case hy1x26 => (intro w hSw; (try dsimp only at hSw); go_split_ands; go_simp; (try with_reducible rfl)))
              try simp only [Act.put, List.setIfInBounds_toArray, List.set_cons_zero, List.set_cons_succ, List.getElem_toArray, List.getElem_cons_zero, List.getElem_cons_succ]
              (refine wpAnyH_take (i := 2) (v := ?v2x27) rfl (by kernel_rfl) (by kernel_rfl) (by kernel_rfl) (fun _ _ _ h => h) (Or.inl ⟨by rfl, ?hy2x27⟩) (by assumption) ?rest2x27; case hy2x27 => (intro w hSw; (try dsimp only at hSw); go_split_ands; go_simp; (try with_reducible rfl)))
              try simp only [Act.put, List.setIfInBounds_toArray, List.set_cons_zero, List.set_cons_succ, List.getElem_toArray, List.getElem_cons_zero, List.getElem_cons_succ]
              (refine wpAnyH_take (i := 3) (v := ?v3x28) rfl (by kernel_rfl) (by kernel_rfl) (by kernel_rfl) (fun _ _ _ h => h) (Or.inl ⟨by rfl, ?hy3x28⟩) (by assumption) ?rest3x28; case hy3x28 => (intro w hSw; (try dsimp only at hSw); go_split_ands; go_simp; (try with_reducible rfl)))
              try simp only [Act.put, List.setIfInBounds_toArray, List.set_cons_zero, List.set_cons_succ, List.getElem_toArray, List.getElem_cons_zero, List.getElem_cons_succ]
              (refine wpAnyH_take (i := 4) (v := ?v4x29) rfl (by kernel_rfl) (by kernel_rfl) (by kernel_rfl) (fun _ _ _ h => h) (Or.inl ⟨by rfl, ?hy4x29⟩) (by assumption) ?rest4x29; case hy4x29 => (intro w hSw; (try dsimp only at hSw); go_split_ands; go_simp; (try with_reducible rfl)))
              try simp only [Act.put, List.setIfInBounds_toArray, List.set_cons_zero, List.set_cons_succ, List.getElem_toArray, List.getElem_cons_zero, List.getElem_cons_succ]
              refine wpAnyH_ready (rs := [5]) (by kernel_rfl) (by simp) ?_
              refine AllReadyH.cons rfl (fun K hK => ?_) AllReadyH.nil
              rw [if_pos (by rfl)]
              refine wp_store_row 28 _ _ rfl (w.heap.size + 1 + 1) (lc (.slice none 0 0) hd0) rfl rfl 28 _ r_res9.out (sizeL _ _) rfl (oneL _ rfl) ?_
              refine hK.out _ _ ⟨(cell_row (by show w.heap.size + 1 ≠ w.heap.size + 1 + 1; omega) hHeld.1), (cell_row (by show w.heap.size + 1 ≠ w.heap.size + 1 + 1; omega) hHeld.2.1), (cell_row (by show 3 ≠ w.heap.size + 1 + 1; omega) hHeld.2.2)⟩ (fun hHeld => ?_)
              clear hK K
              try simp only [Act.put, List.setIfInBounds_toArray, List.set_cons_zero, List.set_cons_succ, List.getElem_toArray, List.getElem_cons_zero, List.getElem_cons_succ]
              (refine wpAnyH_take (i := 6) (v := ?v6x30) rfl (by kernel_rfl) (by kernel_rfl) (by kernel_rfl) (fun _ _ _ h => h) (Or.inl ⟨by rfl, ?hy6x30⟩) (by assumption) ?rest6x30; case hy6x30 => (intro w hSw; (try dsimp only at hSw); go_split_ands; go_simp; (try with_reducible rfl)))
              try simp only [Act.put, List.setIfInBounds_toArray, List.set_cons_zero, List.set_cons_succ, List.getElem_toArray, List.getElem_cons_zero, List.getElem_cons_succ]
              refine wpAnyH_done (by kernel_rfl) ?_ _
              clear hHeld
              go_wp2
              refine bodyPost_ret (res_row_tmp rfl _ _ (w.heap.size + 1 + 1) 28 (lc (.slice none 0 0) hd0) (0, 0) _ rfl (setRow_heap _ _ _ _ _ (0, 0) r_res9.out) Tryd.underlying28 rfl (sizeL _ _)) rfl ⟨Or.inl ⟨4, a3, ?_, HN.out, rfl⟩, below_setRow (Below.drew B9.out) (by omega) _⟩
              unfold why
              simp
            · have HN : Hid (R = (l ++ x, h, 0)) := by show _ = _; rw [← HR.out]; exact extend0 HK.out HD.out hx0 HE.out
              have hMh : M = h := by
                have h9 := (eqH_iff _ _).1 HE.out
                rw [HM.out] at h9
                exact h9.symm
              subst hMh
              go_wp2_with (first | ((try rw [HW9.out]); refine wpList_load_row rfl 28 _ rfl (W8.heap.size) rfl 28 (lc (.slice ao_all L_all cap_all) M) (0, 0) _ r_new9.out Tryd.underlying28 rfl (sizeL _ _) ?_) | (refine wpList_store_row rfl 28 _ _ rfl (w.heap.size + 1 + 1) (lc (.slice ao_all L_all cap_all) M) rfl rfl 28 _ r_res9.out (sizeL _ _) rfl (oneL _ rfl) ?_))
              refine bodyPost_ret (res_row_tmp rfl _ _ (w.heap.size + 1 + 1) 28 (lc (.slice ao_all L_all cap_all) M) (0, 0) _ rfl (setRow_heap _ _ _ _ _ (0, 0) r_res9.out) Tryd.underlying28 rfl (sizeL _ _)) rfl ⟨Or.inr ⟨.slice ao_all L_all cap_all, HN.out, rfl, ?_⟩, below_setRow B9.out (by omega) _⟩
              exact (Own.setRow o_all9.out _ (by omega)).mono (by omega) (by rw [size_setRow]; omega)
      · have nn : (h.n != (l.length : Int) + (x.length : Int)) = true := by simp [hn]
        have ne : (h.n == (l.length : Int) + (x.length : Int)) = false := by simp [hn]
        have HN : Hid (R = (l, hd, 1)) := by show _ = _; rw [← HR.out]; exact extend1 (fun hk => hn (by rw [hk.2.2, HALL.out]; omega)) t
        go_wp2_with fail
        have cg : W3.cell? ⟨0, 0, none⟩ = some (.iface 148 (.pointer (some a0))) := (HF.out.later B3.out).1.1
        refine wp_region_held_drew (S := fun w' => w'.cell? ⟨w.heap.size + 1, 0, none⟩ = some (.int .i64 h.n) ∧ w'.cell? ⟨w.heap.size + 1, 1, none⟩ = some (.string h.r) ∧ w'.cell? ⟨0, 0, none⟩ = some (.iface 148 (.pointer (some a0)))) (by kernel_rfl) ⟨c_h3_0, c_h3_1, cg⟩ (fun hHeld => ?_)
        (refine wpAnyH_take (i := 0) (v := ?v0x31) rfl (by kernel_rfl) (by kernel_rfl) (by kernel_rfl) (fun _ _ _ h => h) (Or.inl ⟨by rfl, ?hy0x31⟩) (by assumption) ?rest0x31; case hy0x31 => (intro w hSw; (try dsimp only at hSw); go_split_ands; go_simp; (try with_reducible rfl)))
        try simp only [Act.put, List.setIfInBounds_toArray, List.set_cons_zero, List.set_cons_succ, List.getElem_toArray, List.getElem_cons_zero, List.getElem_cons_succ]
        (refine wpAnyH_take (i := 1) (v := ?v1x32) rfl (by kernel_rfl) (by kernel_rfl) (by kernel_rfl) (fun _ _ _ h => h) (Or.inl ⟨by rfl, ?hy1x32⟩) (by assumption) ?rest1x32; case hy1x32 => (intro w hSw; (try dsimp only at hSw); go_split_ands; go_simp; (try with_reducible rfl)))
        try simp only [Act.put, List.setIfInBounds_toArray, List.set_cons_zero, List.set_cons_succ, List.getElem_toArray, List.getElem_cons_zero, List.getElem_cons_succ]
        (refine wpAnyH_take (i := 2) (v := ?v2x33) rfl (by kernel_rfl) (by kernel_rfl) (by kernel_rfl) (fun _ _ _ h => h) (Or.inl ⟨by rfl, ?hy2x33⟩) (by assumption) ?rest2x33; case hy2x33 => (intro w hSw; (try dsimp only at hSw); go_split_ands; go_simp; (try with_reducible rfl)))
        try simp only [Act.put, List.setIfInBounds_toArray, List.set_cons_zero, List.set_cons_succ, List.getElem_toArray, List.getElem_cons_zero, List.getElem_cons_succ]
        (refine wpAnyH_take (i := 3) (v := ?v3x34) rfl (by kernel_rfl) (by kernel_rfl) (by kernel_rfl) (fun _ _ _ h => h) (Or.inl ⟨by rfl, ?hy3x34⟩) (by assumption) ?rest3x34; case hy3x34 => (intro w hSw; (try dsimp only at hSw); go_split_ands; go_simp; (try with_reducible rfl)))
        try simp only [Act.put, List.setIfInBounds_toArray, List.set_cons_zero, List.set_cons_succ, List.getElem_toArray, List.getElem_cons_zero, List.getElem_cons_succ]
        (refine wpAnyH_take (i := 4) (v := ?v4x35) rfl (by kernel_rfl) (by kernel_rfl) (by kernel_rfl) (fun _ _ _ h => h) (Or.inl ⟨by rfl, ?hy4x35⟩) (by assumption) ?rest4x35; case hy4x35 => (intro w hSw; (try dsimp only at hSw); go_split_ands; go_simp; (try with_reducible rfl)))
        try simp only [Act.put, List.setIfInBounds_toArray, List.set_cons_zero, List.set_cons_succ, List.getElem_toArray, List.getElem_cons_zero, List.getElem_cons_succ]
        refine wpAnyH_ready (rs := [5]) (by kernel_rfl) (by simp) ?_
        refine AllReadyH.cons rfl (fun K hK => ?_) AllReadyH.nil
        rw [if_pos (by rfl)]
        refine wp_store_row 28 _ _ rfl (w.heap.size + 1 + 1) (lc (.slice none 0 0) hd0) rfl rfl 28 _ r_res3.out (sizeL _ _) rfl (oneL _ rfl) ?_
        refine hK.out _ _ ⟨(cell_row (by show w.heap.size + 1 ≠ w.heap.size + 1 + 1; omega) hHeld.1), (cell_row (by show w.heap.size + 1 ≠ w.heap.size + 1 + 1; omega) hHeld.2.1), (cell_row (by show 0 ≠ w.heap.size + 1 + 1; omega) hHeld.2.2)⟩ (fun hHeld => ?_)
        clear hK K
        try simp only [Act.put, List.setIfInBounds_toArray, List.set_cons_zero, List.set_cons_succ, List.getElem_toArray, List.getElem_cons_zero, List.getElem_cons_succ]
        (refine wpAnyH_take (i := 6) (v := ?v6x36) rfl (by kernel_rfl) (by kernel_rfl) (by kernel_rfl) (fun _ _ _ h => h) (Or.inl ⟨by rfl, ?hy6x36⟩) (by assumption) ?rest6x36; case hy6x36 => (intro w hSw; (try dsimp only at hSw); go_split_ands; go_simp; (try with_reducible rfl)))
        try simp only [Act.put, List.setIfInBounds_toArray, List.set_cons_zero, List.set_cons_succ, List.getElem_toArray, List.getElem_cons_zero, List.getElem_cons_succ]
        refine wpAnyH_done (by kernel_rfl) ?_ _
        clear hHeld
        go_wp2
        refine bodyPost_ret (res_row_tmp rfl _ _ (w.heap.size + 1 + 1) 28 (lc (.slice none 0 0) hd0) (0, 0) _ rfl (setRow_heap _ _ _ _ _ (0, 0) r_res3.out) Tryd.underlying28 rfl (sizeL _ _)) rfl ⟨Or.inl ⟨1, a0, ?_, HN.out, rfl⟩, below_setRow (Below.drew B3.out) (by omega) _⟩
        unfold why
        simp

end Go.Proofs.YtccnhhdcdamgmaaDoor.Lg
