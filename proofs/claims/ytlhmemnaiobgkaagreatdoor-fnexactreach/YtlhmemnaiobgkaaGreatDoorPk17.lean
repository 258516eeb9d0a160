/- Texts in one: Open5, Fg5, Draw, Draw3, Draw4, Draw5, Mod7, Mod8, EntD. -/
import Derived.Test.YtlhmemnaiobgkaaGreatDoorPk16
import Derived.Test.YtlhmemnaiobgkaaGreatDoorPk10
import Derived.Test.YtlhmemnaiobgkaaGreatDoorProg
import Derived.Test.YtlhmemnaiobgkaaGreatDoorPk15
import Derived.Test.YtlhmemnaiobgkaaGreatDoorPk2
import Derived.Test.YtlhmemnaiobgkaaGreatDoorPk3
import Derived.Test.YtlhmemnaiobgkaaGreatDoorPk12
import Derived.Test.YtlhmemnaiobgkaaGreatDoorPk14
import Derived.ChangeSame
import Derived.Deep.RegionWith
import Derived.Deep.QuietTactic
/- What came in, read as versions, needs and entries. -/
namespace Go.Proofs.YtlhmemnaiobgkaaGreatDoor.Open
open Go.RowKit Go.ChangeShapes Go.WideShapes Go.ChangeAt Go.Deep Go.Joins Go.Proofs.YtlhmemnaiobgkaaGreatDoor.Mem Go.Proofs.YtlhmemnaiobgkaaGreatDoor.Ent
set_option linter.unusedVariables false
set_option linter.unusedSimpArgs false

/-- a need whose numbers and texts are such as Go can hold -/
def Okn (n : Nd) : Prop := ((Lit.int .i64 n.a).wf = true ∧ (Lit.int .i64 n.b).wf = true ∧ (Lit.int .i64 n.c).wf = true) ∧ n.path.size ≤ maxLen ∧ n.pre.size ≤ maxLen

section
variable {H : Type} {enc : TypeId × Value → H} {w : World} {base : Nat} {spare : Nat → Bool} {held : Bool}

set_option maxRecDepth 1000000 in
theorem cells_ver : Tryz.prog.cellsOf 82 = 4 := by kernel_rfl

set_option maxRecDepth 1000000 in
theorem read_ver {fuel : Nat} {cs : List Value} {y : DataW H × List MemPlace} (h : DataW.trod enc Tryz.prog w base spare held fuel 82 cs = some y) :
    ∃ (a b c : Int) (p : ByteArray), cs = [.int .i64 a, .int .i64 b, .int .i64 c, .string p] ∧ (Lit.int .i64 a).wf = true ∧ (Lit.int .i64 b).wf = true ∧ (Lit.int .i64 c).wf = true ∧ p.size ≤ maxLen := by
  obtain ⟨y0, y1, y2, y3, n, _, hl, h0, h1, h2, h3⟩ := trod_struct4 Tryz.underlying82 h
  rw [cells_ver] at hl
  match cs, hl with
  | [c0, c1, c2, c3], _ =>
    have k3 : Tryz.prog.cellsOf 3 = 1 := by kernel_rfl
    have k9 : Tryz.prog.cellsOf 9 = 1 := by kernel_rfl
    simp only [k3, k9, List.drop_zero, List.drop_succ_cons, List.take_succ_cons, List.take_zero] at h0 h1 h2 h3
    obtain ⟨a, e0, _, wa⟩ := DataW.trod_int Tryz.underlying3 h0
    obtain ⟨b, e1, _, wb⟩ := DataW.trod_int Tryz.underlying3 h1
    obtain ⟨c, e2, _, wc⟩ := DataW.trod_int Tryz.underlying3 h2
    obtain ⟨p, e3, _, wp⟩ := DataW.trod_string Tryz.underlying9 h3
    simp only [List.cons.injEq, and_true] at e0 e1 e2 e3
    subst e0 e1 e2 e3
    exact ⟨a, b, c, p, rfl, wa, wb, wc, wp⟩

set_option maxRecDepth 1000000 in
theorem cells_need : Tryz.prog.cellsOf 87 = 5 := by kernel_rfl

set_option maxRecDepth 1000000 in
theorem read_need {fuel : Nat} {cs : List Value} {y : DataW H × List MemPlace} (h : DataW.trod enc Tryz.prog w base spare held fuel 87 cs = some y) :
    ∃ n : Nd, cs = n.cs ∧ Okn n := by
  obtain ⟨y0, y1, n, _, hl, h0, h1⟩ := trod_struct2 Tryz.underlying87 h
  rw [cells_need] at hl
  match cs, hl with
  | [c0, c1, c2, c3, c4], _ =>
    have k9 : Tryz.prog.cellsOf 9 = 1 := by kernel_rfl
    simp only [k9, cells_ver, List.drop_zero, List.drop_succ_cons, List.take_succ_cons, List.take_zero] at h0 h1
    obtain ⟨p, e0, _, wp⟩ := DataW.trod_string Tryz.underlying9 h0
    obtain ⟨a, b, c, q, e1, wa, wb, wc, wq⟩ := read_ver h1
    simp only [List.cons.injEq, and_true] at e0 e1
    obtain ⟨rfl, rfl, rfl, rfl⟩ := e1
    subst e0
    exact ⟨⟨p, a, b, c, q⟩, rfl, ⟨wa, wb, wc⟩, wp, wq⟩

theorem flat_nds : ∀ l : List Nd, (l.map Nd.cs).flatten = nds l := by
  intro l
  induction l with
  | nil => rfl
  | cons n r ih => rw [List.map_cons, List.flatten_cons, ih]; rfl
theorem rows_nds : ∀ R : List (List Value), (∀ r ∈ R, ∃ n : Nd, r = n.cs ∧ Okn n) → ∃ l : List Nd, R = l.map Nd.cs ∧ ∀ n ∈ l, Okn n := by
  intro R
  induction R with
  | nil => intro _; exact ⟨[], rfl, fun n hn => (by cases hn)⟩
  | cons r R ih =>
    intro h
    obtain ⟨n, rfl, hn⟩ := h r (by simp)
    obtain ⟨l, rfl, hl⟩ := ih (fun x hx => h x (by simp [hx]))
    exact ⟨n :: l, rfl, fun x hx => by rcases List.mem_cons.1 hx with rfl | hx; exact hn; exact hl x hx⟩

set_option maxRecDepth 1000000 in
theorem read_needs {fuel : Nat} {cs : List Value} {y : DataW H × List MemPlace} (h : DataW.trod enc Tryz.prog w base spare held fuel 47 cs = some y) :
    ∃ (ao : Option Addr) (m cap : Nat) (l : List Nd), cs = [.slice ao m cap] ∧ l.length = m ∧ l.length ≤ maxLen ∧ (∀ n ∈ l, Okn n) ∧ Sd w (.slice ao m cap) l := by
  obtain ⟨ao, m, cap, R, rfl, hm, hR, hr, hs⟩ := rows Tryz.underlying47 cells_need (by omega) h
  obtain ⟨l, rfl, hl⟩ := rows_nds R (fun r hr' => by
    obtain ⟨_, k, y, hy⟩ := hr r hr'
    exact read_need hy)
  rw [flat_nds] at hs
  rw [List.length_map] at hR
  subst hR
  exact ⟨ao, l.length, cap, l, rfl, rfl, hm, hl, hs⟩

set_option maxRecDepth 1000000 in
theorem cells_entry : Tryz.prog.cellsOf 84 = 6 := by kernel_rfl

set_option maxRecDepth 1000000 in
theorem read_entry {fuel : Nat} {cs : List Value} {y : DataW H × List MemPlace} (h : DataW.trod enc Tryz.prog w base spare held fuel 84 cs = some y) :
    ∃ (n : Nd) (ao : Option Addr) (m cap : Nat) (l : List Nd), cs = [.string n.path, .int .i64 n.a, .int .i64 n.b, .int .i64 n.c, .string n.pre, .slice ao m cap] ∧ Okn n ∧ l.length = m ∧ l.length ≤ maxLen ∧ (∀ n ∈ l, Okn n) ∧ Sd w (.slice ao m cap) l := by
  obtain ⟨y0, y1, y2, n, _, hl, h0, h1, h2⟩ := trod_struct3 Tryz.underlying84 h
  rw [cells_entry] at hl
  match cs, hl with
  | [c0, c1, c2, c3, c4, c5], _ =>
    have k9 : Tryz.prog.cellsOf 9 = 1 := by kernel_rfl
    have ks : Tryz.prog.cellsOf 47 = 1 := by kernel_rfl
    simp only [k9, ks, cells_ver, List.drop_zero, List.drop_succ_cons, List.take_succ_cons, List.take_zero] at h0 h1 h2
    obtain ⟨p, e0, _, wp⟩ := DataW.trod_string Tryz.underlying9 h0
    obtain ⟨a, b, c, q, e1, wa, wb, wc, wq⟩ := read_ver h1
    obtain ⟨ao, m, cap, l, e2, hm, hm2, hl2, hs⟩ := read_needs h2
    simp only [List.cons.injEq, and_true] at e0 e1 e2
    obtain ⟨rfl, rfl, rfl, rfl⟩ := e1
    subst e0 e2
    exact ⟨⟨p, a, b, c, q⟩, ao, m, cap, l, rfl, ⟨⟨wa, wb, wc⟩, wp, wq⟩, hm, hm2, hl2, hs⟩

end

end Go.Proofs.YtlhmemnaiobgkaaGreatDoor.Open

/- Chapter 15: the exact laws of VersionsOf and Lacking, over contracts of the landed functions. -/
namespace Go.Proofs.YtlhmemnaiobgkaaGreatDoor.Fe
open Go.RowKit Go.Proofs.YtlhmemnaiobgkaaGreatDoor.Mem Go.Proofs.YtlhmemnaiobgkaaGreatDoor.Laws Go.Proofs.YtlhmemnaiobgkaaGreatDoor.Ver Go.Proofs.YtlhmemnaiobgkaaGreatDoor.Ent Go.Proofs.YtlhmemnaiobgkaaGreatDoor.Strs
set_option linter.unusedVariables false
set_option linter.unusedSimpArgs false

theorem Od.later {w w' : World} {lo hi B : Nat} {v : Value} {l : List Nd} (h : Od w lo hi v l) (b : Below B w w') (hB : hi ≤ B) : Od w' lo hi v l := On.later h b hB
theorem Od.apart {w w' : World} {lo hi l2 h2 : Nat} {v : Value} {l : List Nd} (h : Od w lo hi v l) (a : Apart l2 h2 w w') (hd : hi ≤ l2 ∨ h2 ≤ lo) (hs : hi ≤ w.heap.size) : Od w' lo hi v l := On.apart h a hd hs
theorem Ow.later {w w' : World} {lo hi B : Nat} {v : Value} {l : List Nd} (h : Ow w lo hi v l) (b : Below B w w') (hB : hi ≤ B) : Ow w' lo hi v l := On.later h b hB
theorem Ow.apart {w w' : World} {lo hi l2 h2 : Nat} {v : Value} {l : List Nd} (h : Ow w lo hi v l) (a : Apart l2 h2 w w') (hd : hi ≤ l2 ∨ h2 ≤ lo) (hs : hi ≤ w.heap.size) : Ow w' lo hi v l := On.apart h a hd hs
theorem vers_len (p : ByteArray) (l : List Nd) : (vers15 p l).length ≤ l.length := List.length_filter_le _ _
theorem lack_len (l s : List Nd) : (lack15 l s).length ≤ s.length := List.length_filter_le _ _
/-- an entry that the laws let in -/
def Fit2 (x : Ev) : Prop := Fit 1048576 x ∧ x.l.length ≤ 1048576
theorem Fit2.alk {l T : List Ev} (h : ∀ x ∈ l, Fit2 x) (a : Alk l T) : ∀ y ∈ T, Fit2 y :=
  Alk.all (p := fun n s => (n.path.size ≤ 1048576 ∧ n.pre.size ≤ 1048576 ∧ ∀ m ∈ s, m.path.size ≤ 1048576 ∧ m.pre.size ≤ 1048576) ∧ s.length ≤ 1048576) a h
/-- an entry whose numbers and texts are such as Go can hold -/
def Oke (x : Ev) : Prop := Open.Okn x.n ∧ x.l.length ≤ maxLen ∧ ∀ n ∈ x.l, Open.Okn n
theorem Oke.big {x : Ev} (h : Oke x) : Big x := by
  obtain ⟨h1, h2, h3⟩ := h
  refine ⟨h1.2.1, h1.2.2, fun n hn => ⟨(h3 n hn).2.1, (h3 n hn).2.2⟩, h2⟩

end Go.Proofs.YtlhmemnaiobgkaaGreatDoor.Fe

/- Contracts of the specification's draws: what is drawn is some number within its bounds, some bytes, some texts of a list; the cursor alone is written. -/
namespace Go.Proofs.YtlhmemnaiobgkaaGreatDoor.Draw
open Go.RowKit Go.Proofs.YtlhmemnaiobgkaaGreatDoor.Mem Go.Proofs.YtlhmemnaiobgkaaGreatDoor.Laws Go.Proofs.YtlhmemnaiobgkaaGreatDoor.Bytes
set_option linter.unusedVariables false

/-- A cursor at block g over the bytes that vb reads. -/
def Cur (w : World) (g : Nat) (vb : Value) (n : Nat) : Prop :=
  ∃ (i : Nat) (h : Int), w.heap[g]? = some (.cells #[vb, .int .i64 (i : Int), .int .i64 h] 94 (0, 0)) ∧ i ≤ n

theorem Apart.put {a w : World} {g : Nat} (h : Apart g (g + 1) a w) (j : Nat) (u : Value) : Apart g (g + 1) a (w.setCell ⟨g, j, none⟩ u) :=
  Apart.setCell (p := ⟨g, j, none⟩) h (Nat.le_refl g) (Nat.lt_succ_self g) u

theorem info9 : (Tryz.prog.info? 9).map (fun i => (i.zero, i.size, i.bytes)) = some (some (.string ⟨#[]⟩), 1, 16) := by kernel_rfl

theorem and255 (x : Int) : 0 ≤ bits .and .i64 x 255 ∧ bits .and .i64 x 255 ≤ 255 := by
  have h : ∀ a : BitVec 64, (a &&& (255#64)).toNat ≤ 255 := fun a => by rw [BitVec.toNat_and]; exact Nat.and_le_right
  have e : bits .and .i64 x 255 = IntKind.i64.wrap ((BitVec.ofInt 64 x &&& 255#64).toNat : Int) := rfl
  rw [e]
  have hb := h (BitVec.ofInt 64 x)
  rw [IntKind.wrap_i64]
  omega

set_option maxRecDepth 1000000 in
set_option maxHeartbeats 1000000 in
theorem byte_any (W0 w : World) (g : Nat) (vb : Value) (xs : List Int) (hs : Sl W0 vb (bs xs)) (hby : Byt xs) (hx : xs.length ≤ 140737488355328) (hB : Below W0.heap.size W0 w) (hg : W0.heap.size ≤ g) (hc : Cur w g vb xs.length) :
    Calls Tryz.prog 64 #[.pointer (some ⟨g, 0, none⟩)] w fun e w' => ∃ x : Int, e = .returned (.int .i64 x) ∧ 0 ≤ x ∧ x ≤ 255 ∧ Cur w' g vb xs.length ∧ Apart g (g + 1) w w' := by
  obtain ⟨i, h, hblk, hi⟩ := hc
  have hs' := hs.later hB
  obtain ⟨ao, cap, rfl, hcp, _, hr⟩ := hs'
  have c0 := cell_of_row w g 0 _ _ _ hblk
  have c1 := cell_of_row w g 1 _ _ _ hblk
  have c2 := cell_of_row w g 2 _ _ _ hblk
  have f1 := frozen_of_row w g 1 _ _ hblk
  have f2 := frozen_of_row w g 2 _ _ hblk
  rw [bs_len] at hr hcp c0 hblk
  rw [bs_len]
  simp at c0 c1 c2
  have hset : ∀ (h2 : Int) (k : Nat), (w.setCell ⟨g, 2, none⟩ (.int .i64 h2)).heap[g]? = some (.cells #[.slice ao xs.length cap, .int .i64 (i : Int), .int .i64 h2] 94 (0, 0)) := fun h2 _ => heap_setCell_same w g 2 _ _ _ hblk
  have HS : Hid (∀ (h2 : Int), (w.setCell ⟨g, 2, none⟩ (.int .i64 h2)).heap[g]? = some (.cells #[.slice ao xs.length cap, .int .i64 (i : Int), .int .i64 h2] 94 (0, 0))) := fun h2 => hset h2 0
  clear hset hblk
  by_cases hlt : i < xs.length
  · obtain ⟨b, off, c, rfl, hx0, hcell⟩ := Sl.byteAt hr rfl hlt
    have hcb := hby.at hx0
    have hbl : b < W0.heap.size := by
      obtain ⟨ao', cap', he, _, _, hr'⟩ := hs
      rw [bs_len] at he hr'
      simp only [Value.slice.injEq] at he
      obtain ⟨rfl, _, rfl⟩ := he
      obtain ⟨b', off', c', he', _, hcell'⟩ := Sl.byteAt hr' rfl hlt
      simp only [Option.some.injEq, Addr.mk.injEq, and_true] at he'
      obtain ⟨rfl, rfl⟩ := he'
      exact World.block_lt_of_cell? W0 ⟨b, off + i, none⟩ hcell'
    have hbg : ¬ b = g := by omega
    have hgb : ¬ g = b := by omega
    clear hx0 hr hs hby
    go_enter Tryz.func64, Tryz.ntmps64
    go_wp2
    generalize wrap64 (wrap64 (h * 6364136223846793005) + 1442695040888963407) = h2
    go_quiet (fail)
    go_wp2
    go_quiet (fail)
    go_wp2
    go_quiet (fail)
    go_wp2
    go_ret
    have h2b := HS.out h2
    refine ⟨_, rfl, (and255 _).1, (and255 _).2, ⟨i + 1, h2, heap_setCell_same _ g 1 _ _ _ h2b, by omega⟩, ?_⟩
    repeat (first | exact Apart.refl _ _ _ | refine Apart.quiet ?_ _ | refine Apart.put ?_ _ _)
  · clear hr hs hby
    go_enter Tryz.func64, Tryz.ntmps64
    go_wp2
    generalize wrap64 (wrap64 (h * 6364136223846793005) + 1442695040888963407) = h2
    go_quiet (fail)
    go_wp2
    go_quiet (fail)
    go_wp2
    go_ret
    have h2b := HS.out h2
    refine ⟨_, rfl, (and255 _).1, (and255 _).2, ⟨i, h2, h2b, hi⟩, ?_⟩
    repeat (first | exact Apart.refl _ _ _ | refine Apart.quiet ?_ _ | refine Apart.put ?_ _ _)

/-- What a draw leaves of the world: the cursor alone may have turned. -/
structure Drawn (W0 w : World) (g : Nat) (vb : Value) (xs : List Int) (w' : World) : Prop where
  cur : Cur w' g vb xs.length
  apart : Apart g (g + 1) w w'
  below : Below W0.heap.size W0 w'

theorem Drawn.mk' {W0 w w' : World} {g : Nat} {vb : Value} {xs : List Int} (hB : Below W0.heap.size W0 w) (hg : W0.heap.size ≤ g) (hc : Cur w' g vb xs.length) (ha : Apart g (g + 1) w w') : Drawn W0 w g vb xs w' :=
  ⟨hc, ha, hB.trans (ha.below hg hB.size)⟩

/-- The cursor, where a new block was laid. -/
theorem Cur.alloc {w : World} {g : Nat} {vb : Value} {n : Nat} (h : Cur w g vb n) (o : Obj) : Cur (w.alloc o) g vb n := by
  obtain ⟨i, x, hb, hi⟩ := h
  exact ⟨i, x, by rw [Below.heap_alloc _ _ _ (Array.getElem?_eq_some_iff.1 hb).1]; exact hb, hi⟩
theorem Cur.later {w w' : World} {g B : Nat} {vb : Value} {n : Nat} (h : Cur w g vb n) (hb : Below B w w') (hg : g < B) : Cur w' g vb n := by
  obtain ⟨i, x, hh, hi⟩ := h
  exact ⟨i, x, by rw [hb.block g hg]; exact hh, hi⟩
theorem Cur.lt {w : World} {g : Nat} {vb : Value} {n : Nat} (h : Cur w g vb n) : g < w.heap.size := by
  obtain ⟨i, x, hh, hi⟩ := h
  exact (Array.getElem?_eq_some_iff.1 hh).1

theorem byte_d (W0 w : World) (g : Nat) (vb : Value) (xs : List Int) (hs : Sl W0 vb (bs xs)) (hby : Byt xs) (hx : xs.length ≤ 140737488355328) (hB : Below W0.heap.size W0 w) (hg : W0.heap.size ≤ g) (hc : Cur w g vb xs.length) :
    Calls Tryz.prog 64 #[.pointer (some ⟨g, 0, none⟩)] w fun e w' => ∃ x : Int, e = .returned (.int .i64 x) ∧ 0 ≤ x ∧ x ≤ 255 ∧ Drawn W0 w g vb xs w' := by
  refine (byte_any W0 w g vb xs hs hby hx hB hg hc).mono ?_
  rintro e w' ⟨x, rfl, h0, h1, hcur, hap⟩
  exact ⟨x, rfl, h0, h1, Drawn.mk' hB hg hcur hap⟩

set_option maxRecDepth 1000000 in
set_option maxHeartbeats 1000000 in
theorem below_any (W0 w : World) (g : Nat) (vb : Value) (xs : List Int) (n : Int) (hn1 : 1 ≤ n) (hn2 : n ≤ 9223372036854775807) (hs : Sl W0 vb (bs xs)) (hby : Byt xs) (hx : xs.length ≤ 140737488355328) (hB : Below W0.heap.size W0 w) (hg : W0.heap.size ≤ g) (hc : Cur w g vb xs.length) :
    Calls Tryz.prog 36 #[.pointer (some ⟨g, 0, none⟩), .int .i64 n] w fun e w' => ∃ x : Int, e = .returned (.int .i64 x) ∧ 0 ≤ x ∧ x < n ∧ Drawn W0 w g vb xs w' := by
  by_cases hsm : n ≤ 256
  · go_enter Tryz.func36, Tryz.ntmps36
    go_wp2_with fail
    refine (byte_d W0 w g vb xs hs hby hx hB hg hc).mono ?_
    rintro e w1 ⟨x, rfl, h0, h1, hd⟩
    go_wp2
    go_ret
    exact ⟨_, rfl, Int.emod_nonneg _ (by omega), Int.emod_lt_of_pos _ (by omega), hd⟩
  · go_enter Tryz.func36, Tryz.ntmps36
    go_wp2_with fail
    refine (byte_d W0 w g vb xs hs hby hx hB hg hc).mono ?_
    rintro e w1 ⟨x, rfl, x0, x1, hd1⟩
    go_wp2_with fail
    refine (byte_d W0 w1 g vb xs hs hby hx hd1.below hg hd1.cur).mono ?_
    rintro e w2 ⟨y, rfl, y0, y1, hd2⟩
    go_wp2_with fail
    refine (byte_d W0 w2 g vb xs hs hby hx hd2.below hg hd2.cur).mono ?_
    rintro e w3 ⟨z, rfl, z0, z1, hd3⟩
    go_wp2
    go_ret
    exact ⟨_, rfl, Int.emod_nonneg _ (by omega), Int.emod_lt_of_pos _ (by omega), ⟨hd3.cur, Apart.trans hd1.apart (Apart.trans hd2.apart hd3.apart), hd3.below⟩⟩

/-- ints as cells -/
def is (xs : List Int) : List Value := xs.map (Value.int .i64)
theorem is_len (xs : List Int) : (is xs).length = xs.length := by simp [is]

set_option maxRecDepth 1000000 in
set_option maxHeartbeats 1000000 in
/-- l1Int: one of the list. The list lies apart from the cursor. -/
theorem int_any (W0 w : World) (g : Nat) (vb : Value) (xs : List Int) (gl : Nat) (li : List Int) (hl : w.heap[gl]? = some (.cells (is li).toArray 3 (0, 0))) (hne : gl ≠ g) (hli : 1 ≤ li.length) (hl2 : li.length ≤ 1000) (hs : Sl W0 vb (bs xs)) (hby : Byt xs) (hx : xs.length ≤ 140737488355328) (hB : Below W0.heap.size W0 w) (hg : W0.heap.size ≤ g) (hc : Cur w g vb xs.length) :
    Calls Tryz.prog 40 #[.pointer (some ⟨g, 0, none⟩), .slice (some ⟨gl, 0, none⟩) li.length li.length] w fun e w' => ∃ x : Int, e = .returned (.int .i64 x) ∧ x ∈ li ∧ Drawn W0 w g vb xs w' := by
  go_enter Tryz.func40, Tryz.ntmps40
  go_wp2_with fail
  refine (below_any W0 w g vb xs li.length (by omega) (by omega) hs hby hx hB hg hc).mono ?_
  rintro e w1 ⟨x, rfl, x0, x1, hd⟩
  obtain ⟨k, rfl⟩ := Int.eq_ofNat_of_zero_le x0
  have hk : k < li.length := by omega
  have hgl : gl < w.heap.size := (Array.getElem?_eq_some_iff.1 hl).1
  obtain ⟨y, hy⟩ : ∃ y, li[k]? = some y := ⟨li[k], by simp⟩
  have hcell : w1.cell? ⟨gl, k, none⟩ = some (.int .i64 y) := by
    rw [cell_of_row w1 gl k _ 3 (0, 0) (by rw [hd.apart.block gl hgl (by omega)]; exact hl)]
    simp [is, hy]
  have HY : Hid (li[k]? = some y) := hy
  clear hy hl
  go_wp2
  go_ret
  exact ⟨_, rfl, List.mem_of_getElem? HY.out, hd⟩

set_option maxRecDepth 1000000 in
set_option maxHeartbeats 1000000 in
/-- l1Str: one of the list. The list lies apart from the cursor. -/
theorem str_any (W0 w : World) (g : Nat) (vb : Value) (xs : List Int) (gl : Nat) (li : List ByteArray) (hl : w.heap[gl]? = some (.cells (ss li).toArray 9 (0, 0))) (hne : gl ≠ g) (hli : 1 ≤ li.length) (hl2 : li.length ≤ 1000) (hs : Sl W0 vb (bs xs)) (hby : Byt xs) (hx : xs.length ≤ 140737488355328) (hB : Below W0.heap.size W0 w) (hg : W0.heap.size ≤ g) (hc : Cur w g vb xs.length) :
    Calls Tryz.prog 88 #[.pointer (some ⟨g, 0, none⟩), .slice (some ⟨gl, 0, none⟩) li.length li.length] w fun e w' => ∃ x : ByteArray, e = .returned (.string x) ∧ x ∈ li ∧ Drawn W0 w g vb xs w' := by
  go_enter Tryz.func88, Tryz.ntmps88
  go_wp2_with fail
  refine (below_any W0 w g vb xs li.length (by omega) (by omega) hs hby hx hB hg hc).mono ?_
  rintro e w1 ⟨x, rfl, x0, x1, hd⟩
  obtain ⟨k, rfl⟩ := Int.eq_ofNat_of_zero_le x0
  have hk : k < li.length := by omega
  have hgl : gl < w.heap.size := (Array.getElem?_eq_some_iff.1 hl).1
  obtain ⟨y, hy⟩ : ∃ y, li[k]? = some y := ⟨li[k], by simp⟩
  have hcell : w1.cell? ⟨gl, k, none⟩ = some (.string y) := by
    rw [cell_of_row w1 gl k _ 9 (0, 0) (by rw [hd.apart.block gl hgl (by omega)]; exact hl)]
    simp [ss, hy]
  have HY : Hid (li[k]? = some y) := hy
  clear hy hl
  go_wp2
  go_ret
  exact ⟨_, rfl, List.mem_of_getElem? HY.out, hd⟩

theorem one_byte (x : Int) : ∀ u ∈ [Value.int .u8 x], u.oneCell' = true := by
  intro u hu
  rw [List.mem_singleton] at hu
  rw [hu]
  rfl

theorem one_str (s : ByteArray) : ∀ u ∈ [Value.string s], u.oneCell' = true := by
  intro u hu
  rw [List.mem_singleton] at hu
  rw [hu]
  rfl

theorem Own.emptyB (w : World) (lo : Nat) (h : lo ≤ w.heap.size) : Own (w.alloc (.cells #[] 5)) lo (w.alloc (.cells #[] 5)).heap.size 5 (.slice (some ⟨w.heap.size, 0, none⟩) 0 0) (bs []) :=
  Own.of (World.ownsRow_lit w #[] 0 h (Nat.zero_le _) rfl)

theorem Own.emptyS (w : World) (lo : Nat) (h : lo ≤ w.heap.size) : Own (w.alloc (.cells #[] 9)) lo (w.alloc (.cells #[] 9)).heap.size 9 (.slice (some ⟨w.heap.size, 0, none⟩) 0 0) (ss []) :=
  Own.of (World.ownsRow_lit w #[] 0 h (Nat.zero_le _) rfl)

/-- A draw, and behind it what lies from the start's end on. -/
theorem Drawn.on {W0 w w1 w' : World} {g : Nat} {vb : Value} {xs : List Int} (h : Drawn W0 w g vb xs w1) (hg : W0.heap.size ≤ g) (hgw : g < w.heap.size) (hb : Below w.heap.size w1 w') : Drawn W0 w g vb xs w' :=
  ⟨h.cur.later hb hgw, h.apart.on hb, h.below.trans (hb.mono (by omega))⟩
theorem Drawn.and {W0 w w1 w2 : World} {g : Nat} {vb : Value} {xs : List Int} (h : Drawn W0 w g vb xs w1) (k : Drawn W0 w1 g vb xs w2) : Drawn W0 w g vb xs w2 :=
  ⟨k.cur, h.apart.trans k.apart, k.below⟩
theorem Drawn.refl {W0 w : World} {g : Nat} {vb : Value} {xs : List Int} (hB : Below W0.heap.size W0 w) (hc : Cur w g vb xs.length) : Drawn W0 w g vb xs w :=
  ⟨hc, Apart.refl _ _ _, hB⟩
/-- What the call owns beside the cursor stays. -/
theorem Own.drawn {W0 w w' : World} {g lo hi : Nat} {vb : Value} {xs : List Int} {e : TypeId} {v : Value} {cs : List Value} (h : Own w lo hi e v cs) (hd : Drawn W0 w g vb xs w') (hgl : g < lo ∨ hi ≤ g) (hh : hi ≤ w.heap.size) : Own w' lo hi e v cs :=
  h.apart hd.apart (by omega) hh

theorem lit_block (w : World) (cs : Array Value) (t : TypeId) : (w.alloc (.cells cs t)).heap[w.heap.size]? = some (.cells cs t (0, 0)) := heap_alloc_new w _

theorem mask30 (x : Int) : 0 ≤ bits .and .i64 x 1073741823 ∧ bits .and .i64 x 1073741823 ≤ 1073741823 := by
  have h : ∀ a : BitVec 64, (a &&& (1073741823#64)).toNat ≤ 1073741823 := fun a => by rw [BitVec.toNat_and]; exact Nat.and_le_right
  have e : bits .and .i64 x 1073741823 = IntKind.i64.wrap ((BitVec.ofInt 64 x &&& 1073741823#64).toNat : Int) := rfl
  rw [e]
  have hb := h (BitVec.ofInt 64 x)
  rw [IntKind.wrap_i64]
  omega

set_option maxRecDepth 1000000 in
set_option maxHeartbeats 1000000 in
/-- l1New: a cursor in a new block. -/
theorem new_any (w : World) (vb : Value) (xs : List Int) (hs : Sl w vb (bs xs)) (hby : Byt xs) (hx : xs.length ≤ 140737488355328) :
    Calls Tryz.prog 33 #[vb] w fun e w' => e = .returned (.pointer (some ⟨w.heap.size, 0, none⟩)) ∧ Drawn w w w.heap.size vb xs w' := by
  obtain ⟨ao, cap, rfl, hc1, _, hr1⟩ := hs
  rw [bs_len] at hr1 hc1
  rw [bs_len]
  go_enter Tryz.func33, Tryz.ntmps33
  go_wp2
  go_loop [3, 4] (fun hh i => ∃ (k : Nat) (h : Int), k ≤ xs.length ∧ i = .int .i64 k ∧ hh = .int .i64 h ∧ 0 ≤ h ∧ h ≤ 1000000000000000) (fun _ i => xs.length - (intOf i).toNat)
  case atStart => exact ⟨0, 372372 + (xs.length : Int), Nat.zero_le _, rfl, rfl, by omega, by omega⟩
  case round =>
    obtain ⟨k, h, hk, rfl, rfl, h0, h1⟩ := hrel
    by_cases hlt : k < xs.length
    · have hd1 : decide ((k : Int) < (xs.length : Int)) = true := by simp; omega
      by_cases h4 : (k : Int) < 4000
      · have hd2 : decide ((k : Int) < 4000) = true := by simpa using h4
        obtain ⟨b, off, c, rfl, hx0, hcell⟩ := Sl.byteAt hr1 rfl hlt
        have hcb := hby.at hx0
        clear hx0 hr1 hby
        go_wp2
        go_round
        case rel => exact ⟨k + 1, _, by omega, by go_num, rfl, (mask30 _).1, by have := (mask30 (h * 137 + c + 11)).2; omega⟩
        case measure => simp [intOf]; omega
      · have hd2 : decide ((k : Int) < 4000) = false := by simpa using h4
        clear hr1
        go_wp2
        go_ret
        exact ⟨rfl, ⟨⟨0, h, lit_block _ _ _, Nat.zero_le _⟩, (Apart.refl _ _ _).on ((Below.refl _ _).alloc (Nat.le_refl _) _), (Below.refl _ _).alloc (Nat.le_refl _) _⟩⟩
    · have hd1 : decide ((k : Int) < (xs.length : Int)) = false := by simp; omega
      clear hr1
      go_wp2
      go_ret
      exact ⟨rfl, ⟨⟨0, h, lit_block _ _ _, Nat.zero_le _⟩, (Apart.refl _ _ _).on ((Below.refl _ _).alloc (Nat.le_refl _) _), (Below.refl _ _).alloc (Nat.le_refl _) _⟩⟩

/-- the texts that l1Texts draws of -/
def five : List ByteArray := [⟨#[]⟩, ⟨#[97]⟩, ⟨#[98, 99]⟩, ⟨#[0, 255]⟩, ⟨#[115, 111, 109, 101, 32, 109, 111, 114, 101, 32, 98, 121, 116, 101, 115]⟩]
theorem five_size : ∀ s ∈ five, s.size ≤ 15 := by decide

theorem big_no (w : World) (ao : Option Addr) (n cap : Nat) (h : ¬ 1048576 < n) : Calls Tryz.prog 7 #[.slice ao n cap] w fun e w' => e = .returned (.bool false) ∧ w = w' := by
  have hd : decide ((1048576 : Int) < (n : Int)) = false := by simp; omega
  go_enter Tryz.func7, Tryz.ntmps7
  go_wp2
  go_ret
  exact ⟨rfl, rfl⟩

theorem big_yes (w : World) (ao : Option Addr) (n cap : Nat) (h : 1048576 < n) : Calls Tryz.prog 7 #[.slice ao n cap] w fun e w' => e = .returned (.bool true) ∧ w = w' := by
  have hd : decide ((1048576 : Int) < (n : Int)) = true := by simp; omega
  go_enter Tryz.func7, Tryz.ntmps7
  go_wp2
  go_ret
  exact ⟨rfl, rfl⟩

end Go.Proofs.YtlhmemnaiobgkaaGreatDoor.Draw

/- Chapter 3's draws: a right version; three; whatever version. -/
namespace Go.Proofs.YtlhmemnaiobgkaaGreatDoor.Ver
open Go.RowKit Go.Proofs.YtlhmemnaiobgkaaGreatDoor.Mem Go.Proofs.YtlhmemnaiobgkaaGreatDoor.Laws Go.Proofs.YtlhmemnaiobgkaaGreatDoor.Bytes Go.Proofs.YtlhmemnaiobgkaaGreatDoor.Sha Go.Proofs.YtlhmemnaiobgkaaGreatDoor.Draw
set_option linter.unusedVariables false
set_option linter.unusedSimpArgs false

/-- what may stand behind a drawn version -/
def preL : List ByteArray := [⟨#[]⟩, ⟨#[]⟩, ⟨#[]⟩, ⟨#[114, 99, 46, 49]⟩, ⟨#[97, 108, 112, 104, 97]⟩, ⟨#[114, 99, 46, 50]⟩, ⟨#[49]⟩, ⟨#[50, 46, 120]⟩, ⟨#[98, 101, 116, 97, 45, 49]⟩, ⟨#[114, 99]⟩]
theorem preL_size : ∀ s ∈ preL, s.size ≤ 8 := by decide
/-- a drawn version -/
def Dv (a b c : Int) (p : ByteArray) : Prop := (0 ≤ a ∧ a ≤ 2) ∧ (0 ≤ b ∧ b < 4) ∧ (0 ≤ c ∧ c < 3) ∧ p ∈ preL

theorem Vr.apart {w w' : World} {g q : Nat} {a b c : Int} {p : ByteArray} (h : Vr w q a b c p) (ha : Apart g (g + 1) w w') (hne : q ≠ g) : Vr w' q a b c p := (ha.block q h.lt (by omega)).trans h

theorem info3v : (Tryz.prog.info? 3).map (fun i => (i.zero, i.size, i.bytes)) = some (some (.int .i64 0), 1, 8) := by kernel_rfl

set_option maxRecDepth 1000000 in
set_option maxHeartbeats 1000000 in
theorem draw_any (W0 w : World) (g : Nat) (vb : Value) (xs : List Int) (hs : Sl W0 vb (bs xs)) (hby : Byt xs) (hx : xs.length ≤ 140737488355328) (hB : Below W0.heap.size W0 w) (hg : W0.heap.size ≤ g) (hc : Cur w g vb xs.length) :
    Calls Tryz.prog 66 #[.pointer (some ⟨g, 0, none⟩)] w fun e w' => ∃ a b c p, e = .returned (ver a b c p) ∧ Dv a b c p ∧ Drawn W0 w g vb xs w' := by
  have hgw := hc.lt
  have V0 : Vr (w.alloc (.cells (vc 0 0 0 ⟨#[]⟩) 32)) w.heap.size 0 0 0 ⟨#[]⟩ := heap_alloc_new w _
  have hd0 : Drawn W0 w g vb xs (w.alloc (.cells (vc 0 0 0 ⟨#[]⟩) 32)) := (Drawn.refl hB hc).on hg hgw ((Below.refl _ _).alloc (Nat.le_refl _) _)
  have hd1 : ∀ o, Drawn W0 w g vb xs ((w.alloc (.cells (vc 0 0 0 ⟨#[]⟩) 32)).alloc o) := fun o => hd0.on hg hgw ((Below.refl _ _).alloc (by simp) _)
  have V1 : ∀ o, Vr ((w.alloc (.cells (vc 0 0 0 ⟨#[]⟩) 32)).alloc o) w.heap.size 0 0 0 ⟨#[]⟩ := fun o => Vr.same V0 ((Below.refl _ _).alloc (Nat.le_refl _) _)
  have hg2 : w.heap.size + 1 ≠ g := by omega
  clear V0 hd0
  go_enter Tryz.func66, Tryz.ntmps66
  go_wp2_with fail
  refine (int_any W0 _ g vb xs (w.heap.size + 1) [1, 0, 1, 2] (heap_alloc2_new w _ _) hg2 (by decide) (by decide) hs hby hx (hd1 _).below hg (hd1 _).cur).mono ?_
  rintro e w2 ⟨a, rfl, ha, hd2⟩
  have V2 := Vr.apart (V1 _) hd2.apart (by omega)
  have D2 := (hd1 _).and hd2
  clear hd1 V1 hd2
  go_wp2_with fail
  refine (below_any W0 _ g vb xs 4 (by omega) (by omega) hs hby hx D2.below hg D2.cur).mono ?_
  rintro e w3 ⟨b, rfl, b0, b1, hd3⟩
  have V3 := Vr.apart V2 hd3.apart (by omega)
  have D3 := D2.and hd3
  clear V2 hd3 D2
  go_wp2_with fail
  refine (below_any W0 _ g vb xs 3 (by omega) (by omega) hs hby hx D3.below hg D3.cur).mono ?_
  rintro e w4 ⟨c, rfl, c0, c1, hd4⟩
  have V4 := Vr.apart V3 hd4.apart (by omega)
  have D4 := D3.and hd4
  have hgr : g < w4.heap.size := D4.cur.lt
  have D5 : ∀ o, Drawn W0 w g vb xs (w4.alloc o) := fun o => D4.on hg hgw ((Below.refl _ _).alloc D4.apart.size _)
  have V5 : ∀ o, Vr (w4.alloc o) w.heap.size 0 0 0 ⟨#[]⟩ := fun o => Vr.same V4 ((Below.refl _ _).alloc (Nat.le_refl _) _)
  clear V3 hd4 D3 V4 D4
  go_wp2_with fail
  refine (str_any W0 _ g vb xs w4.heap.size preL (lit_block _ _ _) (by omega) (by decide) (by decide) hs hby hx (D5 _).below hg (D5 _).cur).mono ?_
  rintro e w6 ⟨p, rfl, hp, hd6⟩
  have V6 := Vr.apart (V5 _) hd6.apart (by omega)
  have D6 := (D5 _).and hd6
  clear V5 hd6 D5
  go_wp2_with (refine wpList_store_row rfl 32 _ _ rfl w.heap.size (vc a b c p) rfl rfl 32 (vc 0 0 0 ⟨#[]⟩) V6 (sizeV a b c p) rfl (oneV a b c p) ?_)
  refine bodyPost_ret (v := .agg (vc a b c p)) (results_cell_row rfl _ _ w.heap.size 32 _ (0, 0) _ rfl (Vr.row V6 a b c p) Tryz.underlying32 rfl (sizeV a b c p)) rfl ⟨a, b, c, p, rfl, ⟨?_, ⟨b0, b1⟩, ⟨c0, c1⟩, hp⟩, D6.on hg hgw (below_setRow (Below.refl _ _) (Nat.le_refl _) _)⟩
  simp at ha
  omega

set_option maxRecDepth 1000000 in
theorem once_any (W0 w : World) (g : Nat) (vb : Value) (xs : List Int) (n : Int) (hn1 : 1 ≤ n) (hn2 : n ≤ 9223372036854775807) (hs : Sl W0 vb (bs xs)) (hby : Byt xs) (hx : xs.length ≤ 140737488355328) (hB : Below W0.heap.size W0 w) (hg : W0.heap.size ≤ g) (hc : Cur w g vb xs.length) :
    Calls Tryz.prog 39 #[.pointer (some ⟨g, 0, none⟩), .int .i64 n] w fun e w' => ∃ b : Bool, e = .returned (.bool b) ∧ Drawn W0 w g vb xs w' := by
  go_enter Tryz.func39, Tryz.ntmps39
  go_wp2_with fail
  refine (below_any W0 _ g vb xs n hn1 hn2 hs hby hx hB hg hc).mono ?_
  rintro e w2 ⟨a, rfl, a0, a1, hd2⟩
  go_wp2_with fail
  go_ret
  exact ⟨_, rfl, hd2⟩

end Go.Proofs.YtlhmemnaiobgkaaGreatDoor.Ver

/- Chapter 3's draws: three right versions. -/
namespace Go.Proofs.YtlhmemnaiobgkaaGreatDoor.Ver
open Go.RowKit Go.Proofs.YtlhmemnaiobgkaaGreatDoor.Mem Go.Proofs.YtlhmemnaiobgkaaGreatDoor.Laws Go.Proofs.YtlhmemnaiobgkaaGreatDoor.Bytes Go.Proofs.YtlhmemnaiobgkaaGreatDoor.Sha Go.Proofs.YtlhmemnaiobgkaaGreatDoor.Draw
set_option linter.unusedVariables false
set_option linter.unusedSimpArgs false

theorem size3 (w : World) (A B C : Obj) : (((w.alloc A).alloc B).alloc C).heap.size = w.heap.size + 1 + 1 + 1 := by
  show (((w.heap.push A).push B).push C).size = _
  simp
theorem below3 (w : World) (A B C : Obj) : Below w.heap.size w (((w.alloc A).alloc B).alloc C) := (((Below.refl _ _).alloc (Nat.le_refl _) _).alloc (by simp) _).alloc (by simp; omega) _
theorem last3 (w : World) (A B C : Obj) : (((w.alloc A).alloc B).alloc C).heap[w.heap.size + 1 + 1]? = some C := by
  have h := heap_alloc_new ((w.alloc A).alloc B) C
  have e : ((w.alloc A).alloc B).heap.size = w.heap.size + 1 + 1 := by
    show ((w.heap.push A).push B).size = _
    simp
  rw [e] at h
  exact h
theorem mid3 (w : World) (A B C : Obj) : (((w.alloc A).alloc B).alloc C).heap[w.heap.size + 1]? = some B := by
  rw [heap_alloc_old ((w.alloc A).alloc B) C (show w.heap.size + 1 < ((w.alloc A).alloc B).heap.size by show _ < ((w.heap.push A).push B).size; simp)]
  exact heap_alloc2_new w A B
theorem first3 (w : World) (A B C : Obj) : (((w.alloc A).alloc B).alloc C).heap[w.heap.size]? = some A := by
  rw [heap_alloc_old ((w.alloc A).alloc B) C (show w.heap.size < ((w.alloc A).alloc B).heap.size by show _ < ((w.heap.push A).push B).size; simp; omega)]
  exact heap_alloc2_old w A B

def put4 (w : World) (g : Nat) (a b c : Int) (p : ByteArray) : World := (put3 w g a b c).setCell ⟨g, 3, none⟩ (.string p)
theorem put4_row {w : World} {g : Nat} {a b c : Int} {p : ByteArray} (h : Vr w g a b c p) (a' b' c' : Int) (p' : ByteArray) : Vr (put4 w g a' b' c' p') g a' b' c' p' := Vr.cellSet (put3_row h a' b' c') 3 _
theorem put4_other {w : World} {g g' : Nat} {a b c : Int} {p : ByteArray} (h : Vr w g a b c p) (hg : g ≠ g') (a' b' c' : Int) (p' : ByteArray) : Vr (put4 w g' a' b' c' p') g a b c p := by
  unfold Vr put4
  rw [Below.heap_setCell _ _ _ _ (by exact hg)]
  exact put3_other h hg a' b' c'
theorem put4_below {B : Nat} {w0 w : World} {g : Nat} (hb : Below B w0 w) (hg : B ≤ g) (a b c : Int) (p : ByteArray) : Below B w0 (put4 w g a b c p) := (put3_below hb hg a b c).setCell (p := ⟨g, 3, none⟩) hg _
theorem results_rows3 {P : Program} {fn : Func} {p q r : Tmp} {ty : TypeId} (h : fn.results = #[.cell p ty, .cell q ty, .cell r ty]) (tmps : Array Value) (w : World) (g1 g2 g3 : Nat) (t : TypeId) (c1 c2 c3 : Array Value) (d : TypeDesc)
    (hp : tmps.getD p undef = .pointer (some ⟨g1, 0, none⟩)) (hq : tmps.getD q undef = .pointer (some ⟨g2, 0, none⟩)) (hr : tmps.getD r undef = .pointer (some ⟨g3, 0, none⟩))
    (h1 : w.heap[g1]? = some (.cells c1 t (0, 0))) (h2 : w.heap[g2]? = some (.cells c2 t (0, 0))) (h3 : w.heap[g3]? = some (.cells c3 t (0, 0)))
    (hu : P.underlying ty = some d) (hd : (match d with | .struct _ | .array _ _ => true | _ => false) = true) (i1 : (P.info? ty).map (·.size) = some c1.size) (i2 : (P.info? ty).map (·.size) = some c2.size) (i3 : (P.info? ty).map (·.size) = some c3.size) :
    (results fn tmps).run P w = .ok (.tuple #[.agg c1, .agg c2, .agg c3]) w := by
  have hp' : tmps[p]?.getD undef = .pointer (some ⟨g1, 0, none⟩) := by simpa using hp
  have hq' : tmps[q]?.getD undef = .pointer (some ⟨g2, 0, none⟩) := by simpa using hq
  have hr' : tmps[r]?.getD undef = .pointer (some ⟨g3, 0, none⟩) := by simpa using hr
  simp [results, h, hp', hq', hr', asAddr, run_loadVar_row w g1 t ty c1 (0, 0) d h1 hu hd i1, run_loadVar_row w g2 t ty c2 (0, 0) d h2 hu hd i2, run_loadVar_row w g3 t ty c3 (0, 0) d h3 hu hd i3]
theorem Vr.drew {w : World} {g : Nat} {a b c : Int} {p : ByteArray} (h : Vr w g a b c p) : Vr w.drew g a b c p := h
theorem Vr.setOther {w : World} {g q : Nat} {a b c : Int} {p : ByteArray} (h : Vr w q a b c p) (hne : q ≠ g) (i : Nat) (v : Value) : Vr (w.setCell ⟨g, i, none⟩ v) q a b c p := by
  unfold Vr
  rw [Below.heap_setCell _ _ _ _ (by exact hne)]
  exact h
theorem Vr.set0 {w : World} {g : Nat} {a b c : Int} {p : ByteArray} (h : Vr w g a b c p) (a' : Int) : Vr (w.setCell ⟨g, 0, none⟩ (.int .i64 a')) g a' b c p := Vr.cellSet h 0 _
theorem Vr.set1 {w : World} {g : Nat} {a b c : Int} {p : ByteArray} (h : Vr w g a b c p) (b' : Int) : Vr (w.setCell ⟨g, 1, none⟩ (.int .i64 b')) g a b' c p := Vr.cellSet h 1 _
theorem Vr.rowOther {w : World} {g q : Nat} {a b c : Int} {p : ByteArray} (h : Vr w q a b c p) (hne : q ≠ g) (cs : Array Value) : Vr (w.setRow g cs) q a b c p := by
  unfold Vr
  rw [setRow_other w g q cs hne]
  exact h
theorem draw_agg (W0 w : World) (g : Nat) (vb : Value) (xs : List Int) (hs : Sl W0 vb (bs xs)) (hby : Byt xs) (hx : xs.length ≤ 140737488355328) (hB : Below W0.heap.size W0 w) (hg : W0.heap.size ≤ g) (hc : Cur w g vb xs.length) :
    Calls Tryz.prog 66 #[.pointer (some ⟨g, 0, none⟩)] w fun e w' => ∃ a b c p, e = .returned (.agg #[.int .i64 a, .int .i64 b, .int .i64 c, .string p]) ∧ Dv a b c p ∧ Drawn W0 w g vb xs w' := draw_any W0 w g vb xs hs hby hx hB hg hc

end Go.Proofs.YtlhmemnaiobgkaaGreatDoor.Ver

/- Chapter 3's draws: whatever version. -/
namespace Go.Proofs.YtlhmemnaiobgkaaGreatDoor.Ver
open Go.RowKit Go.Proofs.YtlhmemnaiobgkaaGreatDoor.Mem Go.Proofs.YtlhmemnaiobgkaaGreatDoor.Laws Go.Proofs.YtlhmemnaiobgkaaGreatDoor.Bytes Go.Proofs.YtlhmemnaiobgkaaGreatDoor.Sha Go.Proofs.YtlhmemnaiobgkaaGreatDoor.Draw
set_option linter.unusedVariables false
set_option linter.unusedSimpArgs false

/-- what else may stand behind a drawn version -/
def oddL : List ByteArray := [⟨#[46]⟩, ⟨#[48, 49]⟩, ⟨#[97, 46, 46, 98]⟩, ⟨#[97, 46, 98, 46, 99, 46, 100]⟩, ⟨#[97, 46, 98, 46, 99, 46, 100, 46, 101]⟩, ⟨#[110, 105, 110, 101, 98, 121, 116, 101, 115]⟩, ⟨#[195, 169]⟩, ⟨#[48]⟩, ⟨#[97, 95, 98]⟩]
theorem oddL_size : ∀ s ∈ oddL, s.size ≤ 9 := by decide
/-- a drawn version of any kind -/
def Av (a b c : Int) (p : ByteArray) : Prop := (-1 ≤ a ∧ a ≤ 1000001) ∧ (0 ≤ b ∧ b < 4) ∧ (-1 ≤ c ∧ c ≤ 1000001) ∧ p.size ≤ 9
theorem Dv.any {a b c : Int} {p : ByteArray} (h : Dv a b c p) : Av a b c p := by
  obtain ⟨h1, h2, h3, h4⟩ := h
  have := preL_size p h4
  exact ⟨by omega, h2, by omega, by omega⟩
theorem Vr.set2 {w : World} {g : Nat} {a b c : Int} {p : ByteArray} (h : Vr w g a b c p) (c' : Int) : Vr (w.setCell ⟨g, 2, none⟩ (.int .i64 c')) g a b c' p := Vr.cellSet h 2 _
theorem Vr.set3 {w : World} {g : Nat} {a b c : Int} {p : ByteArray} (h : Vr w g a b c p) (p' : ByteArray) : Vr (w.setCell ⟨g, 3, none⟩ (.string p')) g a b c p' := Vr.cellSet h 3 _

set_option maxRecDepth 1000000 in
set_option maxHeartbeats 2000000 in
theorem any_any (W0 w : World) (g : Nat) (vb : Value) (xs : List Int) (hs : Sl W0 vb (bs xs)) (hby : Byt xs) (hx : xs.length ≤ 140737488355328) (hB : Below W0.heap.size W0 w) (hg : W0.heap.size ≤ g) (hc : Cur w g vb xs.length) :
    Calls Tryz.prog 70 #[.pointer (some ⟨g, 0, none⟩)] w fun e w' => ∃ a b c p, e = .returned (ver a b c p) ∧ Av a b c p ∧ Drawn W0 w g vb xs w' := by
  have hgw := hc.lt
  have V0 : Vr (w.alloc (.cells (vc 0 0 0 ⟨#[]⟩) 32)) w.heap.size 0 0 0 ⟨#[]⟩ := heap_alloc_new w _
  have hd0 : Drawn W0 w g vb xs (w.alloc (.cells (vc 0 0 0 ⟨#[]⟩) 32)) := (Drawn.refl hB hc).on hg hgw ((Below.refl _ _).alloc (Nat.le_refl _) _)
  go_enter Tryz.func70, Tryz.ntmps70
  go_wp2_with fail
  refine (draw_agg W0 _ g vb xs hs hby hx hd0.below hg hd0.cur).mono ?_
  rintro e w2 ⟨a, b, c, p, rfl, D1, d2⟩
  have A1 := D1.any
  have X2 : Vr w2 w.heap.size 0 0 0 ⟨#[]⟩ := Vr.apart V0 d2.apart (by omega)
  have D2 := hd0.and d2
  have s2 := D2.apart.size
  have t2 := X2.lt
  have gl2 := D2.cur.lt
  have D3 : ∀ o, Drawn W0 w g vb xs (w2.alloc o) := fun o => D2.on hg hgw ((Below.refl _ _).alloc s2 _)
  have X3 : ∀ o, Vr (w2.alloc o) w.heap.size 0 0 0 ⟨#[]⟩ := fun o => Vr.same X2 ((Below.refl _ _).alloc (Nat.le_refl _) _)
  clear V0 hd0 d2 X2 D2
  go_wp2_with fail
  refine (below_any W0 _ g vb xs 12 (by omega) (by omega) hs hby hx (D3 _).below hg (D3 _).cur).mono ?_
  rintro e w3 ⟨x, rfl, x0, x1, d3⟩
  have V3 : Vr w3 w2.heap.size a b c p := Vr.apart (w := w2.alloc (.cells (vc a b c p) 32)) (heap_alloc_new w2 _) d3.apart (by omega)
  have X3' : Vr w3 w.heap.size 0 0 0 ⟨#[]⟩ := Vr.apart (X3 _) d3.apart (by omega)
  have D3' := (D3 _).and d3
  have s3 := D3'.apart.size
  have t3 := V3.lt
  have gl3 := D3'.cur.lt
  have D4 : ∀ o, Drawn W0 w g vb xs (w3.alloc o) := fun o => D3'.on hg hgw ((Below.refl _ _).alloc s3 _)
  have X4 : ∀ o, Vr (w3.alloc o) w.heap.size 0 0 0 ⟨#[]⟩ := fun o => Vr.same X3' ((Below.refl _ _).alloc (Nat.le_refl _) _)
  have V4 : ∀ o, Vr (w3.alloc o) w2.heap.size a b c p := fun o => Vr.same V3 ((Below.refl _ _).alloc (Nat.le_refl _) _)
  clear D3 X3 d3
  by_cases h0 : x = 0
  · have e0 : (x == 0) = true := by simpa using h0
    clear h0 V3 X3' D3'
    go_wp2_with fail
    refine (int_any W0 _ g vb xs w3.heap.size [-1, 1000000, 1000001] (lit_block _ _ _) (by omega) (by simp) (by simp) hs hby hx (D4 _).below hg (D4 _).cur).mono ?_
    rintro e w5 ⟨z, rfl, hm, d5⟩
    have hz : -1 ≤ z ∧ z ≤ 1000001 := by simp at hm; omega
    have V5 : Vr w5 w2.heap.size a b c p := Vr.apart (V4 _) d5.apart (by omega)
    have X5 : Vr w5 w.heap.size 0 0 0 ⟨#[]⟩ := Vr.apart (X4 _) d5.apart (by omega)
    have D5 := (D4 _).and d5
    obtain ⟨k0, k1, k2, k3⟩ := Vr.cells V5
    have zf := Vr.frozen V5 0
    have V6 : Vr (w5.setCell ⟨w2.heap.size, 0, none⟩ (.int .i64 z)) w2.heap.size z b c p := Vr.set0 V5 z
    have X6 : Vr (w5.setCell ⟨w2.heap.size, 0, none⟩ (.int .i64 z)) w.heap.size 0 0 0 ⟨#[]⟩ := Vr.setOther X5 (by omega) _ _
    have D6 : Drawn W0 w g vb xs (w5.setCell ⟨w2.heap.size, 0, none⟩ (.int .i64 z)) := D5.on hg hgw ((Below.refl _ _).setCell (p := ⟨w2.heap.size, 0, none⟩) (show w.heap.size ≤ w2.heap.size by omega) _)
    clear V4 X4 D4 V5 X5 d5 D5 hm
    go_wp2_with (first | (refine wpList_load_row rfl 32 _ rfl w2.heap.size rfl 32 (vc z b c p) (0, 0) _ V6 Tryz.underlying32 rfl (sizeV z b c p) ?_) | (refine wpList_store_row rfl 32 _ _ rfl w.heap.size (vc z b c p) rfl rfl 32 (vc 0 0 0 ⟨#[]⟩) X6 (sizeV z b c p) rfl (oneV z b c p) ?_))
    refine bodyPost_ret (v := .agg (vc z b c p)) (results_cell_row rfl _ _ w.heap.size 32 _ (0, 0) _ rfl (Vr.row X6 z b c p) Tryz.underlying32 rfl (sizeV z b c p)) rfl ⟨z, b, c, p, rfl, ⟨hz, A1.2.1, A1.2.2.1, A1.2.2.2⟩, D6.on hg hgw (below_setRow (Below.refl _ _) (Nat.le_refl _) _)⟩
  by_cases h1 : x = 1
  · have e0 : (x == 0) = false := by simpa using h0
    have e1 : (x == 1) = true := by simpa using h1
    clear h0 h1 V3 X3' D3'
    go_wp2_with fail
    refine (str_any W0 _ g vb xs w3.heap.size oddL (lit_block _ _ _) (by omega) (by decide) (by decide) hs hby hx (D4 _).below hg (D4 _).cur).mono ?_
    rintro e w5 ⟨z, rfl, hm, d5⟩
    have hz := oddL_size z hm
    have V5 : Vr w5 w2.heap.size a b c p := Vr.apart (V4 _) d5.apart (by omega)
    have X5 : Vr w5 w.heap.size 0 0 0 ⟨#[]⟩ := Vr.apart (X4 _) d5.apart (by omega)
    have D5 := (D4 _).and d5
    obtain ⟨k0, k1, k2, k3⟩ := Vr.cells V5
    have zf := Vr.frozen V5 3
    have V6 : Vr (w5.setCell ⟨w2.heap.size, 3, none⟩ (.string z)) w2.heap.size a b c z := Vr.set3 V5 z
    have X6 : Vr (w5.setCell ⟨w2.heap.size, 3, none⟩ (.string z)) w.heap.size 0 0 0 ⟨#[]⟩ := Vr.setOther X5 (by omega) _ _
    have D6 : Drawn W0 w g vb xs (w5.setCell ⟨w2.heap.size, 3, none⟩ (.string z)) := D5.on hg hgw ((Below.refl _ _).setCell (p := ⟨w2.heap.size, 3, none⟩) (show w.heap.size ≤ w2.heap.size by omega) _)
    clear V4 X4 D4 V5 X5 d5 D5 hm
    go_wp2_with (first | (refine wpList_load_row rfl 32 _ rfl w2.heap.size rfl 32 (vc a b c z) (0, 0) _ V6 Tryz.underlying32 rfl (sizeV a b c z) ?_) | (refine wpList_store_row rfl 32 _ _ rfl w.heap.size (vc a b c z) rfl rfl 32 (vc 0 0 0 ⟨#[]⟩) X6 (sizeV a b c z) rfl (oneV a b c z) ?_))
    refine bodyPost_ret (v := .agg (vc a b c z)) (results_cell_row rfl _ _ w.heap.size 32 _ (0, 0) _ rfl (Vr.row X6 a b c z) Tryz.underlying32 rfl (sizeV a b c z)) rfl ⟨a, b, c, z, rfl, ⟨A1.1, A1.2.1, A1.2.2.1, hz⟩, D6.on hg hgw (below_setRow (Below.refl _ _) (Nat.le_refl _) _)⟩
  by_cases h2 : x = 2
  · have e0 : (x == 0) = false := by simpa using h0
    have e1 : (x == 1) = false := by simpa using h1
    have e2 : (x == 2) = true := by simpa using h2
    clear h0 h1 h2 V3 X3' D3'
    go_wp2_with fail
    refine (int_any W0 _ g vb xs w3.heap.size [-1, 1000000, 1000001] (lit_block _ _ _) (by omega) (by simp) (by simp) hs hby hx (D4 _).below hg (D4 _).cur).mono ?_
    rintro e w5 ⟨z, rfl, hm, d5⟩
    have hz : -1 ≤ z ∧ z ≤ 1000001 := by simp at hm; omega
    have V5 : Vr w5 w2.heap.size a b c p := Vr.apart (V4 _) d5.apart (by omega)
    have X5 : Vr w5 w.heap.size 0 0 0 ⟨#[]⟩ := Vr.apart (X4 _) d5.apart (by omega)
    have D5 := (D4 _).and d5
    obtain ⟨k0, k1, k2, k3⟩ := Vr.cells V5
    have zf := Vr.frozen V5 2
    have V6 : Vr (w5.setCell ⟨w2.heap.size, 2, none⟩ (.int .i64 z)) w2.heap.size a b z p := Vr.set2 V5 z
    have X6 : Vr (w5.setCell ⟨w2.heap.size, 2, none⟩ (.int .i64 z)) w.heap.size 0 0 0 ⟨#[]⟩ := Vr.setOther X5 (by omega) _ _
    have D6 : Drawn W0 w g vb xs (w5.setCell ⟨w2.heap.size, 2, none⟩ (.int .i64 z)) := D5.on hg hgw ((Below.refl _ _).setCell (p := ⟨w2.heap.size, 2, none⟩) (show w.heap.size ≤ w2.heap.size by omega) _)
    clear V4 X4 D4 V5 X5 d5 D5 hm
    go_wp2_with (first | (refine wpList_load_row rfl 32 _ rfl w2.heap.size rfl 32 (vc a b z p) (0, 0) _ V6 Tryz.underlying32 rfl (sizeV a b z p) ?_) | (refine wpList_store_row rfl 32 _ _ rfl w.heap.size (vc a b z p) rfl rfl 32 (vc 0 0 0 ⟨#[]⟩) X6 (sizeV a b z p) rfl (oneV a b z p) ?_))
    refine bodyPost_ret (v := .agg (vc a b z p)) (results_cell_row rfl _ _ w.heap.size 32 _ (0, 0) _ rfl (Vr.row X6 a b z p) Tryz.underlying32 rfl (sizeV a b z p)) rfl ⟨a, b, z, p, rfl, ⟨A1.1, A1.2.1, hz, A1.2.2.2⟩, D6.on hg hgw (below_setRow (Below.refl _ _) (Nat.le_refl _) _)⟩
  have e0 : (x == 0) = false := by simpa using h0
  have e1 : (x == 1) = false := by simpa using h1
  have e2 : (x == 2) = false := by simpa using h2
  clear h0 h1 h2 V4 X4 D4
  go_wp2_with (first | (refine wpList_load_row rfl 32 _ rfl w2.heap.size rfl 32 (vc a b c p) (0, 0) _ V3 Tryz.underlying32 rfl (sizeV a b c p) ?_) | (refine wpList_store_row rfl 32 _ _ rfl w.heap.size (vc a b c p) rfl rfl 32 (vc 0 0 0 ⟨#[]⟩) X3' (sizeV a b c p) rfl (oneV a b c p) ?_))
  refine bodyPost_ret (v := .agg (vc a b c p)) (results_cell_row rfl _ _ w.heap.size 32 _ (0, 0) _ rfl (Vr.row X3' a b c p) Tryz.underlying32 rfl (sizeV a b c p)) rfl ⟨a, b, c, p, rfl, A1, D3'.on hg hgw (below_setRow (Below.refl _ _) (Nat.le_refl _) _)⟩

theorem any_agg (W0 w : World) (g : Nat) (vb : Value) (xs : List Int) (hs : Sl W0 vb (bs xs)) (hby : Byt xs) (hx : xs.length ≤ 140737488355328) (hB : Below W0.heap.size W0 w) (hg : W0.heap.size ≤ g) (hc : Cur w g vb xs.length) :
    Calls Tryz.prog 70 #[.pointer (some ⟨g, 0, none⟩)] w fun e w' => ∃ a b c p, e = .returned (.agg #[.int .i64 a, .int .i64 b, .int .i64 c, .string p]) ∧ Av a b c p ∧ Drawn W0 w g vb xs w' := any_any W0 w g vb xs hs hby hx hB hg hc

end Go.Proofs.YtlhmemnaiobgkaaGreatDoor.Ver

/- Chapter 4's draws: a path; whatever path; a path and a version. -/
namespace Go.Proofs.YtlhmemnaiobgkaaGreatDoor.Mod
open Go.RowKit Go.Proofs.YtlhmemnaiobgkaaGreatDoor.Mem Go.Proofs.YtlhmemnaiobgkaaGreatDoor.Laws Go.Proofs.YtlhmemnaiobgkaaGreatDoor.Bytes Go.Proofs.YtlhmemnaiobgkaaGreatDoor.Sha Go.Proofs.YtlhmemnaiobgkaaGreatDoor.Draw Go.Proofs.YtlhmemnaiobgkaaGreatDoor.Ver
set_option linter.unusedVariables false
set_option linter.unusedSimpArgs false

def pathL : List ByteArray := [⟨#[97, 46, 111, 114, 103, 47, 120]⟩, ⟨#[97, 46, 111, 114, 103, 47, 121]⟩, ⟨#[98, 46, 105, 111, 47, 122]⟩, ⟨#[98, 46, 105, 111, 47, 122, 47, 118, 50]⟩, ⟨#[99]⟩, ⟨#[97, 46, 111, 114, 103, 47, 119]⟩]
def oddP : List ByteArray := [⟨#[]⟩, ⟨#[47]⟩, ⟨#[97, 47, 47, 98]⟩, ⟨#[65]⟩, ⟨#[45, 97]⟩, ⟨#[97, 47, 118, 49]⟩, ⟨#[97, 47, 118, 50]⟩, ⟨#[97, 47, 118, 48, 50]⟩, ⟨#[118, 50]⟩, ⟨#[97, 47, 118, 49, 48, 48, 48]⟩, ⟨#[97, 47, 118, 49, 48, 48, 49]⟩, ⟨#[97, 47, 98, 47, 99, 47, 100, 47, 101, 47, 102]⟩, ⟨#[97, 47, 98, 47, 99, 47, 100, 47, 101, 47, 102, 47, 103]⟩, ⟨#[116, 119, 101, 110, 116, 121, 111, 110, 101, 98, 121, 116, 101, 115, 45, 116, 119, 101, 110, 116, 121]⟩, ⟨#[97, 46, 98, 95, 99, 45, 100, 47, 118, 51]⟩, ⟨#[46, 97]⟩]
theorem pathL_size : ∀ s ∈ pathL, s.size ≤ 60 := by decide
theorem oddP_size : ∀ s ∈ oddP, s.size ≤ 60 := by decide

set_option maxRecDepth 1000000 in
set_option maxHeartbeats 1000000 in
theorem path_any (W0 w : World) (g : Nat) (vb : Value) (xs : List Int) (hs : Sl W0 vb (bs xs)) (hby : Byt xs) (hx : xs.length ≤ 140737488355328) (hB : Below W0.heap.size W0 w) (hg : W0.heap.size ≤ g) (hc : Cur w g vb xs.length) :
    Calls Tryz.prog 65 #[.pointer (some ⟨g, 0, none⟩)] w fun e w' => ∃ s, e = .returned (.string s) ∧ s ∈ pathL ∧ Drawn W0 w g vb xs w' := by
  have hgw := hc.lt
  have D1 : ∀ o, Drawn W0 w g vb xs (w.alloc o) := fun o => (Drawn.refl hB hc).on hg hgw ((Below.refl _ _).alloc (Nat.le_refl _) _)
  go_enter Tryz.func65, Tryz.ntmps65
  go_wp2_with fail
  refine (str_any W0 _ g vb xs w.heap.size pathL (lit_block _ _ _) (by omega) (by decide) (by decide) hs hby hx (D1 _).below hg (D1 _).cur).mono ?_
  rintro e w5 ⟨z, rfl, hm, d5⟩
  have D5 := (D1 _).and d5
  clear D1
  go_wp2_with fail
  go_ret
  exact ⟨z, rfl, hm, D5⟩

set_option maxRecDepth 1000000 in
set_option maxHeartbeats 1000000 in
theorem anyP_any (W0 w : World) (g : Nat) (vb : Value) (xs : List Int) (hs : Sl W0 vb (bs xs)) (hby : Byt xs) (hx : xs.length ≤ 140737488355328) (hB : Below W0.heap.size W0 w) (hg : W0.heap.size ≤ g) (hc : Cur w g vb xs.length) :
    Calls Tryz.prog 69 #[.pointer (some ⟨g, 0, none⟩)] w fun e w' => ∃ s, e = .returned (.string s) ∧ s.size ≤ 60 ∧ Drawn W0 w g vb xs w' := by
  have hgw := hc.lt
  go_enter Tryz.func69, Tryz.ntmps69
  go_wp2_with fail
  refine (once_any W0 _ g vb xs 4 (by omega) (by omega) hs hby hx hB hg hc).mono ?_
  rintro e w1 ⟨on, rfl, d1⟩
  have s1 := d1.apart.size
  have gl1 := d1.cur.lt
  have D1 : ∀ o, Drawn W0 w g vb xs (w1.alloc o) := fun o => d1.on hg hgw ((Below.refl _ _).alloc s1 _)
  cases on
  · go_wp2_with fail
    refine (path_any W0 _ g vb xs hs hby hx d1.below hg d1.cur).mono ?_
    rintro e w5 ⟨z, rfl, hm, d5⟩
    have D5 := d1.and d5
    clear D1
    go_wp2_with fail
    go_ret
    exact ⟨z, rfl, pathL_size z hm, D5⟩
  · go_wp2_with fail
    refine (str_any W0 _ g vb xs w1.heap.size oddP (lit_block _ _ _) (by omega) (by decide) (by decide) hs hby hx (D1 _).below hg (D1 _).cur).mono ?_
    rintro e w5 ⟨z, rfl, hm, d5⟩
    have D5 := (D1 _).and d5
    clear D1
    go_wp2_with fail
    go_ret
    exact ⟨z, rfl, oddP_size z hm, D5⟩

end Go.Proofs.YtlhmemnaiobgkaaGreatDoor.Mod

/- Chapter 4's draws: a path and a version. -/
namespace Go.Proofs.YtlhmemnaiobgkaaGreatDoor.Mod
open Go.RowKit Go.Proofs.YtlhmemnaiobgkaaGreatDoor.Mem Go.Proofs.YtlhmemnaiobgkaaGreatDoor.Laws Go.Proofs.YtlhmemnaiobgkaaGreatDoor.Bytes Go.Proofs.YtlhmemnaiobgkaaGreatDoor.Sha Go.Proofs.YtlhmemnaiobgkaaGreatDoor.Draw Go.Proofs.YtlhmemnaiobgkaaGreatDoor.Ver
set_option linter.unusedVariables false
set_option linter.unusedSimpArgs false

theorem results_tmp_row {P : Program} {fn : Func} {p u : Tmp} {ty : TypeId} (h : fn.results = #[.tmp u, .cell p ty]) (tmps : Array Value) (w : World) (g : Nat) (t : TypeId) (cs : Array Value) (fr : Nat × Nat) (d : TypeDesc)
    (hp : tmps.getD p undef = .pointer (some ⟨g, 0, none⟩)) (hh : w.heap[g]? = some (.cells cs t fr)) (hu : P.underlying ty = some d) (hd : (match d with | .struct _ | .array _ _ => true | _ => false) = true) (hi : (P.info? ty).map (·.size) = some cs.size) :
    (results fn tmps).run P w = .ok (.tuple #[tmps.getD u undef, .agg cs]) w := by
  have hp' : tmps[p]?.getD undef = .pointer (some ⟨g, 0, none⟩) := by simpa using hp
  simp [results, h, hp', asAddr, run_loadVar_row w g t ty cs fr d hh hu hd hi]

end Go.Proofs.YtlhmemnaiobgkaaGreatDoor.Mod

/- Chapter 5, draws: a need. -/
namespace Go.Proofs.YtlhmemnaiobgkaaGreatDoor.Ent
open Go.RowKit Go.Proofs.YtlhmemnaiobgkaaGreatDoor.Mem Go.Proofs.YtlhmemnaiobgkaaGreatDoor.Laws Go.Proofs.YtlhmemnaiobgkaaGreatDoor.Bytes Go.Proofs.YtlhmemnaiobgkaaGreatDoor.Sha Go.Proofs.YtlhmemnaiobgkaaGreatDoor.Ver Go.Proofs.YtlhmemnaiobgkaaGreatDoor.Mod Go.Proofs.YtlhmemnaiobgkaaGreatDoor.Draw
set_option linter.unusedVariables false
set_option linter.unusedSimpArgs false

theorem pathL_ok : ∀ s ∈ pathL, path4 (sb s) = true ∧ (major4 s = 1 ∨ major4 s = 2) := by decide +kernel
theorem preL_ok : ∀ p ∈ preL, (decide (p.size = 0) || Ver.pre (sb p)) = true := by decide +kernel
theorem rowApart {w w' : World} {g q : Nat} {o : Obj} (h : w.heap[q]? = some o) (ha : Apart g (g + 1) w w') (hne : q ≠ g) : w'.heap[q]? = some o := (ha.block q (Array.getElem?_eq_some_iff.1 h).1 (by omega)).trans h

/-- what a drawn need is -/
def Dn (n : Nd) : Prop := n.path ∈ pathL ∧ n.ok = true ∧ n.pre ∈ preL
theorem Dn.size {n : Nd} (h : Dn n) : n.path.size ≤ 60 ∧ n.pre.size ≤ 9 := ⟨pathL_size _ h.1, Nat.le_trans (preL_size _ h.2.2) (by omega)⟩
theorem dn_of {s : ByteArray} {a b c : Int} {p : ByteArray} (hs : s ∈ pathL) (hd : Dv a b c p) {m : Int} (hm : m = major4 s ∨ (major4 s = 1 ∧ m = 0)) : Dn ⟨s, m, b, c, p⟩ := by
  obtain ⟨h1, h2⟩ := pathL_ok s hs
  obtain ⟨_, hb, hc, hp⟩ := hd
  refine ⟨hs, ?_, hp⟩
  have hok : okV m b c p = true := by
    unfold okV inM
    rw [preL_ok p hp]
    simp
    omega
  show fits4 s m b c p = true
  unfold fits4
  rw [hok]
  simp
  omega

set_option maxRecDepth 1000000 in
set_option maxHeartbeats 2000000 in
theorem need_any (W0 w : World) (g : Nat) (vb : Value) (xs : List Int) (hs : Sl W0 vb (bs xs)) (hby : Byt xs) (hx : xs.length ≤ 140737488355328) (hB : Below W0.heap.size W0 w) (hg : W0.heap.size ≤ g) (hc : Cur w g vb xs.length) :
    Calls Tryz.prog 37 #[.pointer (some ⟨g, 0, none⟩)] w fun e w' => ∃ n : Nd, e = .returned (.agg #[.string n.path, .int .i64 n.a, .int .i64 n.b, .int .i64 n.c, .string n.pre]) ∧ Dn n ∧ Drawn W0 w g vb xs w' := by
  have hgw := hc.lt
  obtain ⟨W1, HW1, HR1, HD1⟩ : ∃ W1, Hid (w.alloc (.cells #[.string ⟨#[]⟩, .int .i64 0, .int .i64 0, .int .i64 0, .string ⟨#[]⟩] 38) = W1) ∧ Hid (W1.heap[w.heap.size]? = some (.cells (nc5 nil5) 38 (0, 0))) ∧ Hid (Drawn W0 w g vb xs W1) :=
    ⟨_, rfl, heap_alloc_new w _, (Drawn.refl hB hc).on hg hgw ((Below.refl _ _).alloc (Nat.le_refl _) _)⟩
  have q1 := path_any W0 W1 g vb xs hs hby hx HD1.out.below hg HD1.out.cur
  rw [← HW1.out] at q1
  go_enter Tryz.func37, Tryz.ntmps37
  go_wp2_with fail
  refine q1.mono ?_
  rw [HW1.out]
  rintro e w2 ⟨s, rfl, hsm, d2⟩
  have D2 : Hid (Drawn W0 w g vb xs w2) := HD1.out.and d2
  have R2 : Hid (w2.heap[w.heap.size]? = some (.cells (nc5 nil5) 38 (0, 0))) := rowApart HR1.out d2.apart (by omega)
  have q2 := draw_agg W0 w2 g vb xs hs hby hx D2.out.below hg D2.out.cur
  clear q1 HW1 HR1 HD1 d2
  go_wp2_with fail
  refine q2.mono ?_
  rintro e w3 ⟨a, b, c, p, rfl, hdv, d3⟩
  have D3 : Drawn W0 w g vb xs w3 := D2.out.and d3
  have hlt3 : w.heap.size < w3.heap.size := Nat.lt_of_lt_of_le (Array.getElem?_eq_some_iff.1 R2.out).1 d3.apart.size
  have hsz := pathL_size s hsm
  obtain ⟨W4, HW4, HR4, HN4, HD4⟩ : ∃ W4, Hid (w3.alloc (.cells #[.string s, .int .i64 a, .int .i64 b, .int .i64 c, .string p] 38) = W4) ∧ Hid (W4.heap[w.heap.size]? = some (.cells (nc5 nil5) 38 (0, 0))) ∧ Hid (Nr W4 w3.heap.size ⟨s, a, b, c, p⟩) ∧ Hid (Drawn W0 w g vb xs W4) :=
    ⟨_, rfl, rowKeep (rowApart R2.out d3.apart (by omega)) ((Below.refl _ _).alloc (Nat.le_refl _) _), heap_alloc_new w3 _, D3.on hg hgw ((Below.refl _ _).alloc (by omega) _)⟩
  have q3 := major_spec W4 s (by omega)
  rw [← HW4.out] at q3
  clear q2 R2 D2 d3 D3
  go_wp2_with fail
  refine q3.mono ?_
  rw [HW4.out]
  rintro e w5 ⟨rfl, b5⟩
  have R5 : Hid (w5.heap[w.heap.size]? = some (.cells (nc5 nil5) 38 (0, 0))) := rowKeep HR4.out b5
  have N5 : Nr w5 w3.heap.size ⟨s, a, b, c, p⟩ := rowKeep HN4.out b5
  have D5 : Hid (Drawn W0 w g vb xs w5) := HD4.out.on hg hgw (b5.mono (Nat.le_trans (by omega) (Nat.le_of_lt (Array.getElem?_eq_some_iff.1 HN4.out).1)))
  obtain ⟨k0, k1, k2, k3, k4⟩ := Nr.cells N5
  have f1 : w5.frozen? ⟨w3.heap.size, 1, none⟩ = false := frozen_of_row w5 _ 1 _ _ N5
  have hmj := pathL_ok s hsm
  obtain ⟨m, hm⟩ : ∃ m, major4 s = m := ⟨_, rfl⟩
  rw [hm]
  have HM : Hid (major4 s = m) := hm
  obtain ⟨W6, HW6, HR6, HN6, HD6⟩ : ∃ W6, Hid (w5.setCell ⟨w3.heap.size, 1, none⟩ (.int .i64 m) = W6) ∧ Hid (W6.heap[w.heap.size]? = some (.cells (nc5 nil5) 38 (0, 0))) ∧ Hid (Nr W6 w3.heap.size ⟨s, m, b, c, p⟩) ∧ Hid (Drawn W0 w g vb xs W6) := by
    refine ⟨_, rfl, (heap_setCell_other w5 ⟨w3.heap.size, 1, none⟩ _ _ (by show w.heap.size ≠ w3.heap.size; omega)).trans R5.out, ?_, D5.out.on hg hgw ((Below.refl _ _).setCell (p := ⟨w3.heap.size, 1, none⟩) (by show _ ≤ w3.heap.size; omega) _)⟩
    show (w5.setCell _ _).heap[w3.heap.size]? = _
    rw [heap_setCell_same w5 _ 1 _ _ _ N5]
    rfl
  have c1 : (w5.setCell ⟨w3.heap.size, 1, none⟩ (.int .i64 m)).cell? ⟨w3.heap.size, 1, none⟩ = some (.int .i64 m) := by rw [HW6.out]; exact (Nr.cells HN6.out).2.1
  clear q3 HW4 HR4 HN4 HD4 R5 N5 D5 k2 k3 k4 b5 hm
  by_cases hm1 : m = 1
  · have q4 := once_any W0 W6 g vb xs 4 (by omega) (by omega) hs hby hx HD6.out.below hg HD6.out.cur
    rw [← HW6.out] at q4
    have dm : (m == 1) = true := by simpa using hm1
    have HM1 : Hid (m = 1) := hm1
    clear hm1
    go_wp2_with fail
    refine q4.mono ?_
    rw [HW6.out]
    rintro e w7 ⟨on, rfl, d7⟩
    have R7 : Hid (w7.heap[w.heap.size]? = some (.cells (nc5 nil5) 38 (0, 0))) := rowApart HR6.out d7.apart (by omega)
    have N7 : Nr w7 w3.heap.size ⟨s, m, b, c, p⟩ := rowApart HN6.out d7.apart (by omega)
    have D7 : Hid (Drawn W0 w g vb xs w7) := HD6.out.and d7
    clear q4 c1 k0 k1 f1 HW6 HR6 HN6 HD6 d7
    cases on
    · have HDn : Hid (Dn ⟨s, m, b, c, p⟩) := dn_of hsm hdv (.inl HM.out.symm)
      have N7' : Hid _ := N7
      clear N7
      go_wp2_with (first | (refine wpList_load_row rfl 38 _ rfl w3.heap.size rfl 38 (nc5 ⟨s, m, b, c, p⟩) (0, 0) _ N7'.out Tryz.underlying38 rfl (sizeN5 _) ?_) | (refine wpList_store_row rfl 38 _ _ rfl w.heap.size (nc5 ⟨s, m, b, c, p⟩) rfl rfl 38 _ R7.out (sizeN5 _) rfl (oneN5 _) ?_))
      exact bodyPost_ret (v := .agg (nc5 ⟨s, m, b, c, p⟩)) (results_cell_row rfl _ _ w.heap.size 38 _ (0, 0) _ rfl (setRow_heap _ _ _ _ _ (0, 0) R7.out) Tryz.underlying38 rfl (sizeN5 _)) rfl ⟨⟨s, m, b, c, p⟩, rfl, HDn.out, (D7.out).on hg hgw (below_setRow (Below.refl _ _) (Nat.le_refl _) _)⟩
    · have HDn : Hid (Dn ⟨s, 0, b, c, p⟩) := dn_of hsm hdv (.inr ⟨by rw [HM.out, HM1.out], rfl⟩)
      have k1 := (Nr.cells N7).2.1
      have f1 : w7.frozen? ⟨w3.heap.size, 1, none⟩ = false := frozen_of_row w7 _ 1 _ _ N7
      have HN8 : Hid (Nr (w7.setCell ⟨w3.heap.size, 1, none⟩ (.int .i64 0)) w3.heap.size ⟨s, 0, b, c, p⟩) := by
        show (w7.setCell _ _).heap[w3.heap.size]? = _
        rw [heap_setCell_same w7 _ 1 _ _ _ N7]
        rfl
      have HR8 : Hid ((w7.setCell ⟨w3.heap.size, 1, none⟩ (.int .i64 0)).heap[w.heap.size]? = some (.cells (nc5 nil5) 38 (0, 0))) := (heap_setCell_other w7 ⟨w3.heap.size, 1, none⟩ _ _ (by show w.heap.size ≠ w3.heap.size; omega)).trans R7.out
      have HD8 : Hid (Drawn W0 w g vb xs (w7.setCell ⟨w3.heap.size, 1, none⟩ (.int .i64 0))) := D7.out.on hg hgw ((Below.refl _ _).setCell (p := ⟨w3.heap.size, 1, none⟩) (by show _ ≤ w3.heap.size; omega) _)
      clear N7 R7 D7
      go_wp2_with (first | (refine wpList_load_row rfl 38 _ rfl w3.heap.size rfl 38 (nc5 ⟨s, 0, b, c, p⟩) (0, 0) _ HN8.out Tryz.underlying38 rfl (sizeN5 _) ?_) | (refine wpList_store_row rfl 38 _ _ rfl w.heap.size (nc5 ⟨s, 0, b, c, p⟩) rfl rfl 38 _ HR8.out (sizeN5 _) rfl (oneN5 _) ?_))
      exact bodyPost_ret (v := .agg (nc5 ⟨s, 0, b, c, p⟩)) (results_cell_row rfl _ _ w.heap.size 38 _ (0, 0) _ rfl (setRow_heap _ _ _ _ _ (0, 0) HR8.out) Tryz.underlying38 rfl (sizeN5 _)) rfl ⟨⟨s, 0, b, c, p⟩, rfl, HDn.out, (HD8.out).on hg hgw (below_setRow (Below.refl _ _) (Nat.le_refl _) _)⟩
  · have dm : (m == 1) = false := by simpa using hm1
    have HDn : Hid (Dn ⟨s, m, b, c, p⟩) := dn_of hsm hdv (.inl HM.out.symm)
    rw [← HW6.out] at HR6 HN6 HD6
    clear hm1 k0
    go_wp2_with (first | (refine wpList_load_row rfl 38 _ rfl w3.heap.size rfl 38 (nc5 ⟨s, m, b, c, p⟩) (0, 0) _ HN6.out Tryz.underlying38 rfl (sizeN5 _) ?_) | (refine wpList_store_row rfl 38 _ _ rfl w.heap.size (nc5 ⟨s, m, b, c, p⟩) rfl rfl 38 _ HR6.out (sizeN5 _) rfl (oneN5 _) ?_))
    exact bodyPost_ret (v := .agg (nc5 ⟨s, m, b, c, p⟩)) (results_cell_row rfl _ _ w.heap.size 38 _ (0, 0) _ rfl (setRow_heap _ _ _ _ _ (0, 0) HR6.out) Tryz.underlying38 rfl (sizeN5 _)) rfl ⟨⟨s, m, b, c, p⟩, rfl, HDn.out, (HD6.out).on hg hgw (below_setRow (Below.refl _ _) (Nat.le_refl _) _)⟩

end Go.Proofs.YtlhmemnaiobgkaaGreatDoor.Ent
