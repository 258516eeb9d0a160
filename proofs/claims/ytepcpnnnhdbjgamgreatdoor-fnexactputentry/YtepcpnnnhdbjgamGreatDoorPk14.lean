/- Texts in one: Open5, EntX, EntV, Gets, GetT, Strs, GetTs. -/
import Derived.Test.YtepcpnnnhdbjgamGreatDoorPk13
import Derived.Test.YtepcpnnnhdbjgamGreatDoorPk7
import Derived.Test.YtepcpnnnhdbjgamGreatDoorProg
import Derived.Test.YtepcpnnnhdbjgamGreatDoorPk12
import Derived.Test.YtepcpnnnhdbjgamGreatDoorPk2
import Derived.Test.YtepcpnnnhdbjgamGreatDoorPk3
import Derived.Test.YtepcpnnnhdbjgamGreatDoorRows
import Derived.Test.YtepcpnnnhdbjgamGreatDoorPk1
import Derived.ChangeSame
import Derived.WalkKit
import Derived.WalkSpells
import Derived.WalkLawsBesides
import Derived.Deep.QuietTactic
import Derived.BigQuiet
import Derived.Deep.RegionWith
/- What came in, read as versions, needs and entries. -/
namespace Go.Proofs.YtepcpnnnhdbjgamGreatDoor.Open
open Go.RowKit Go.ChangeShapes Go.WideShapes Go.ChangeAt Go.Deep Go.Joins Go.Proofs.YtepcpnnnhdbjgamGreatDoor.Mem Go.Proofs.YtepcpnnnhdbjgamGreatDoor.Ent
set_option linter.unusedVariables false
set_option linter.unusedSimpArgs false

/-- a need whose numbers and texts are such as Go can hold -/
def Okn (n : Nd) : Prop := ((Lit.int .i64 n.a).wf = true ∧ (Lit.int .i64 n.b).wf = true ∧ (Lit.int .i64 n.c).wf = true) ∧ n.path.size ≤ maxLen ∧ n.pre.size ≤ maxLen

section
variable {H : Type} {enc : TypeId × Value → H} {w : World} {base : Nat} {spare : Nat → Bool} {held : Bool}

set_option maxRecDepth 1000000 in
theorem cells_ver : Tryz.prog.cellsOf 23 = 4 := by kernel_rfl

set_option maxRecDepth 1000000 in
theorem read_ver {fuel : Nat} {cs : List Value} {y : DataW H × List MemPlace} (h : DataW.trod enc Tryz.prog w base spare held fuel 23 cs = some y) :
    ∃ (a b c : Int) (p : ByteArray), cs = [.int .i64 a, .int .i64 b, .int .i64 c, .string p] ∧ (Lit.int .i64 a).wf = true ∧ (Lit.int .i64 b).wf = true ∧ (Lit.int .i64 c).wf = true ∧ p.size ≤ maxLen := by
  obtain ⟨y0, y1, y2, y3, n, _, hl, h0, h1, h2, h3⟩ := trod_struct4 Tryz.underlying23 h
  rw [cells_ver] at hl
  match cs, hl with
  | [c0, c1, c2, c3], _ =>
    have k3 : Tryz.prog.cellsOf 3 = 1 := by kernel_rfl
    have k9 : Tryz.prog.cellsOf 9 = 1 := by kernel_rfl
    simp only [k3, k9, List.drop_zero, List.drop_succ_cons, List.take_succ_cons, List.take_zero] at h0 h1 h2 h3
    obtain ⟨a, e0, _, wa⟩ := DataW.trod_int Tryz.underlying3 h0
    obtain ⟨b, e1, _, wb⟩ := DataW.trod_int Tryz.underlying3 h1
    obtain ⟨c, e2, _, wc⟩ := DataW.trod_int Tryz.underlying3 h2
    obtain ⟨p, e3, _, wp⟩ := DataW.trod_string Tryz.underlying9 h3
    simp only [List.cons.injEq, and_true] at e0 e1 e2 e3
    subst e0 e1 e2 e3
    exact ⟨a, b, c, p, rfl, wa, wb, wc, wp⟩

set_option maxRecDepth 1000000 in
theorem cells_need : Tryz.prog.cellsOf 70 = 5 := by kernel_rfl

set_option maxRecDepth 1000000 in
theorem read_need {fuel : Nat} {cs : List Value} {y : DataW H × List MemPlace} (h : DataW.trod enc Tryz.prog w base spare held fuel 70 cs = some y) :
    ∃ n : Nd, cs = n.cs ∧ Okn n := by
  obtain ⟨y0, y1, n, _, hl, h0, h1⟩ := trod_struct2 Tryz.underlying70 h
  rw [cells_need] at hl
  match cs, hl with
  | [c0, c1, c2, c3, c4], _ =>
    have k9 : Tryz.prog.cellsOf 9 = 1 := by kernel_rfl
    simp only [k9, cells_ver, List.drop_zero, List.drop_succ_cons, List.take_succ_cons, List.take_zero] at h0 h1
    obtain ⟨p, e0, _, wp⟩ := DataW.trod_string Tryz.underlying9 h0
    obtain ⟨a, b, c, q, e1, wa, wb, wc, wq⟩ := read_ver h1
    simp only [List.cons.injEq, and_true] at e0 e1
    obtain ⟨rfl, rfl, rfl, rfl⟩ := e1
    subst e0
    exact ⟨⟨p, a, b, c, q⟩, rfl, ⟨wa, wb, wc⟩, wp, wq⟩

theorem flat_nds : ∀ l : List Nd, (l.map Nd.cs).flatten = nds l := by
  intro l
  induction l with
  | nil => rfl
  | cons n r ih => rw [List.map_cons, List.flatten_cons, ih]; rfl
theorem rows_nds : ∀ R : List (List Value), (∀ r ∈ R, ∃ n : Nd, r = n.cs ∧ Okn n) → ∃ l : List Nd, R = l.map Nd.cs ∧ ∀ n ∈ l, Okn n := by
  intro R
  induction R with
  | nil => intro _; exact ⟨[], rfl, fun n hn => (by cases hn)⟩
  | cons r R ih =>
    intro h
    obtain ⟨n, rfl, hn⟩ := h r (by simp)
    obtain ⟨l, rfl, hl⟩ := ih (fun x hx => h x (by simp [hx]))
    exact ⟨n :: l, rfl, fun x hx => by rcases List.mem_cons.1 hx with rfl | hx; exact hn; exact hl x hx⟩

set_option maxRecDepth 1000000 in
theorem read_needs {fuel : Nat} {cs : List Value} {y : DataW H × List MemPlace} (h : DataW.trod enc Tryz.prog w base spare held fuel 24 cs = some y) :
    ∃ (ao : Option Addr) (m cap : Nat) (l : List Nd), cs = [.slice ao m cap] ∧ l.length = m ∧ l.length ≤ maxLen ∧ (∀ n ∈ l, Okn n) ∧ Sd w (.slice ao m cap) l := by
  obtain ⟨ao, m, cap, R, rfl, hm, hR, hr, hs⟩ := rows Tryz.underlying24 cells_need (by omega) h
  obtain ⟨l, rfl, hl⟩ := rows_nds R (fun r hr' => by
    obtain ⟨_, k, y, hy⟩ := hr r hr'
    exact read_need hy)
  rw [flat_nds] at hs
  rw [List.length_map] at hR
  subst hR
  exact ⟨ao, l.length, cap, l, rfl, rfl, hm, hl, hs⟩

set_option maxRecDepth 1000000 in
theorem cells_entry : Tryz.prog.cellsOf 26 = 6 := by kernel_rfl

set_option maxRecDepth 1000000 in
theorem read_entry {fuel : Nat} {cs : List Value} {y : DataW H × List MemPlace} (h : DataW.trod enc Tryz.prog w base spare held fuel 26 cs = some y) :
    ∃ (n : Nd) (ao : Option Addr) (m cap : Nat) (l : List Nd), cs = [.string n.path, .int .i64 n.a, .int .i64 n.b, .int .i64 n.c, .string n.pre, .slice ao m cap] ∧ Okn n ∧ l.length = m ∧ l.length ≤ maxLen ∧ (∀ n ∈ l, Okn n) ∧ Sd w (.slice ao m cap) l := by
  obtain ⟨y0, y1, y2, n, _, hl, h0, h1, h2⟩ := trod_struct3 Tryz.underlying26 h
  rw [cells_entry] at hl
  match cs, hl with
  | [c0, c1, c2, c3, c4, c5], _ =>
    have k9 : Tryz.prog.cellsOf 9 = 1 := by kernel_rfl
    have ks : Tryz.prog.cellsOf 24 = 1 := by kernel_rfl
    simp only [k9, ks, cells_ver, List.drop_zero, List.drop_succ_cons, List.take_succ_cons, List.take_zero] at h0 h1 h2
    obtain ⟨p, e0, _, wp⟩ := DataW.trod_string Tryz.underlying9 h0
    obtain ⟨a, b, c, q, e1, wa, wb, wc, wq⟩ := read_ver h1
    obtain ⟨ao, m, cap, l, e2, hm, hm2, hl2, hs⟩ := read_needs h2
    simp only [List.cons.injEq, and_true] at e0 e1 e2
    obtain ⟨rfl, rfl, rfl, rfl⟩ := e1
    subst e0 e2
    exact ⟨⟨p, a, b, c, q⟩, ao, m, cap, l, rfl, ⟨⟨wa, wb, wc⟩, wp, wq⟩, hm, hm2, hl2, hs⟩

end

end Go.Proofs.YtepcpnnnhdbjgamGreatDoor.Open

/- Chapter 5: three exact laws, over contracts of the landed functions. -/
namespace Go.Proofs.YtepcpnnnhdbjgamGreatDoor.Ent
open Go.RowKit Go.Proofs.YtepcpnnnhdbjgamGreatDoor.Mem Go.Proofs.YtepcpnnnhdbjgamGreatDoor.Laws Go.Proofs.YtepcpnnnhdbjgamGreatDoor.Bytes Go.Proofs.YtepcpnnnhdbjgamGreatDoor.Sha Go.Proofs.YtepcpnnnhdbjgamGreatDoor.Ver Go.Proofs.YtepcpnnnhdbjgamGreatDoor.Mod
set_option linter.unusedVariables false
set_option linter.unusedSimpArgs false

theorem sizeLN (n : Nd) : (Tryz.prog.info? 70).map (·.size) = some (nc n).size := by
  show _ = some 5
  kernel_rfl

theorem sizeLE (n : Nd) (v : Value) : (Tryz.prog.info? 26).map (·.size) = some (ec n v).size := by
  show _ = some 6
  kernel_rfl

end Go.Proofs.YtepcpnnnhdbjgamGreatDoor.Ent

/- Chapter 5: the exact law of PutEntry, over a contract of the landed function. -/
namespace Go.Proofs.YtepcpnnnhdbjgamGreatDoor.Ent
open Go.RowKit Go.Proofs.YtepcpnnnhdbjgamGreatDoor.Mem Go.Proofs.YtepcpnnnhdbjgamGreatDoor.Laws Go.Proofs.YtepcpnnnhdbjgamGreatDoor.Bytes Go.Proofs.YtepcpnnnhdbjgamGreatDoor.Sha Go.Proofs.YtepcpnnnhdbjgamGreatDoor.Ver Go.Proofs.YtepcpnnnhdbjgamGreatDoor.Mod
set_option linter.unusedVariables false
set_option linter.unusedSimpArgs false

set_option maxRecDepth 1000000 in
set_option maxHeartbeats 4000000 in
theorem exact_put (w : World) (n : Nd) (v : Value) (l : List Nd) (hn : Open.Okn n) (h : Sd w v l) (ho : ∀ n ∈ l, Open.Okn n) (hm : l.length ≤ maxLen)
    (iF : ∀ W v', Below w.heap.size w W → Sd W v' l → n.path.size ≤ 1048576 → n.pre.size ≤ 1048576 → l.length ≤ 1048576 → (∀ n ∈ l, n.path.size ≤ 1048576 ∧ n.pre.size ≤ 1048576) → Calls Tryz.prog 8 #[.agg #[.string n.path, .int .i64 n.a, .int .i64 n.b, .int .i64 n.c, .string n.pre, v']] W fun e w' => e = .returned (.string (put5 n l)) ∧ Below W.heap.size W w') :
    Calls Tryz.prog 3 #[.agg #[.string n.path, .int .i64 n.a, .int .i64 n.b, .int .i64 n.c, .string n.pre, v]] w fun e w' => e = .returned (.bool true) ∧ Below w.heap.size w w' := by
  obtain ⟨_, hn1, hn2⟩ := hn
  unfold maxLen at hm hn1 hn2
  have HB : Hid (Below w.heap.size w (w.alloc (.cells #[.string n.path, .int .i64 n.a, .int .i64 n.b, .int .i64 n.c, .string n.pre, v] 26))) := (Below.refl _ _).alloc (Nat.le_refl _) _
  have HR : Hid ((w.alloc (.cells #[.string n.path, .int .i64 n.a, .int .i64 n.b, .int .i64 n.c, .string n.pre, v] 26)).heap[w.heap.size]? = some (.cells (ec n v) 26 (0, 0))) := heap_alloc_new w _
  have q0 := sz_entry (w.alloc (.cells #[.string n.path, .int .i64 n.a, .int .i64 n.b, .int .i64 n.c, .string n.pre, v] 26)) n v l 1048576 (h.later HB.out) (by omega) (by omega) (fun n hn => by have := (ho n hn).2; unfold maxLen at this; omega) (by omega) (by omega)
  have q1 : ∀ W, Below w.heap.size w W → l.length ≤ 1048576 → _ := fun W hW hl => to_entry W n v l (h.later hW) (by omega)
  have q2 : ∀ W v', Sd W v' l → n.path.size ≤ 1048576 → n.pre.size ≤ 1048576 → l.length ≤ 1048576 → (∀ n ∈ l, n.path.size ≤ 1048576 ∧ n.pre.size ≤ 1048576) → _ := fun W v' hv h1 h2 hl hz => put_spec5 W n v' l hv hl h1 h2 hz
  have q3 : ∀ W v1 v2, Sd W v1 l → Sd W v2 l → l.length ≤ 1048576 → _ := fun W v1 v2 h1 h2 hl => eq_entry W n v1 v2 l h1 h2 (by omega)
  obtain ⟨x, hx⟩ : ∃ x, put5 n l = x := ⟨_, rfl⟩
  simp only [hx] at q2 iF
  clear hx ho h
  go_enter Tryz.func3, Tryz.ntmps3
  go_wp2_with fail
  refine q0.mono ?_
  rintro e W1 ⟨⟨r, rfl, hr, hrr⟩, b1⟩
  have R1 := rowKeep HR.out b1
  have B1 : Below w.heap.size w W1 := HB.out.trans (b1.mono HB.out.size)
  clear q0 b1 HR HB
  rcases hrr with hr0 | ⟨hr0, h1, h2, hl, hall⟩
  · clear q1 q2 q3 iF R1
    go_wp2_with fail
    go_ret
    exact ⟨rfl, B1⟩
  have hr1 : ¬ r < 0 := by omega
  have HA : Hid (∀ n ∈ l, n.path.size ≤ 1048576 ∧ n.pre.size ≤ 1048576) := hall
  clear hall
  go_wp2_with (refine wpList_load_row rfl 26 _ rfl w.heap.size rfl 26 (ec n v) (0, 0) _ R1 Tryz.underlying26 rfl (sizeLE n v) ?_)
  refine (q1 _ B1 hl).mono ?_
  rintro e W2 ⟨v2, rfl, d2, b2⟩
  have R2 := rowKeep R1 b2
  have B2 : Below w.heap.size w W2 := B1.trans (b2.mono B1.size)
  clear B1 b2 R1
  go_wp2_with (refine wpList_load_row rfl 26 _ rfl w.heap.size rfl 26 (ec n v) (0, 0) _ R2 Tryz.underlying26 rfl (sizeLE n v) ?_)
  refine (q2 _ v2 d2.sd h1 h2 hl HA.out).mono ?_
  rintro e W3 ⟨rfl, b3⟩
  have R3 := rowKeep R2 b3
  have B3 : Below w.heap.size w W3 := B2.trans (b3.mono B2.size)
  clear B2 b3 d2 R2
  go_wp2_with (refine wpList_load_row rfl 26 _ rfl w.heap.size rfl 26 (ec n v) (0, 0) _ R3 Tryz.underlying26 rfl (sizeLE n v) ?_)
  refine (q1 _ B3 hl).mono ?_
  rintro e W4 ⟨v4, rfl, d4, b4⟩
  have R4 := rowKeep R3 b4
  have B4 : Below w.heap.size w W4 := B3.trans (b4.mono B3.size)
  clear B3 b4 R3
  -- HERE
  obtain ⟨_, ao4, cap4, rfl, _⟩ := d4.sd
  have hz4 : w.heap.size < W4.heap.size := (Array.getElem?_eq_some_iff.1 R4).1
  have B5 : Below w.heap.size w (W4.alloc (.cells #[.string n.path, .int .i64 n.a, .int .i64 n.b, .int .i64 n.c, .string n.pre, .slice ao4 l.length cap4] 32)) := B4.alloc B4.size _
  have HR5 : Hid ((W4.alloc (.cells #[.string n.path, .int .i64 n.a, .int .i64 n.b, .int .i64 n.c, .string n.pre, .slice ao4 l.length cap4] 32)).heap[W4.heap.size]? = some (.cells (ec n (.slice ao4 l.length cap4)) 32 (0, 0))) := heap_alloc_new W4 _
  have HR4 : Hid ((W4.alloc (.cells #[.string n.path, .int .i64 n.a, .int .i64 n.b, .int .i64 n.c, .string n.pre, .slice ao4 l.length cap4] 32)).heap[w.heap.size]? = some (.cells (ec n v) 26 (0, 0))) := by
    show _ = _
    rw [heap_alloc_old _ _ hz4]
    exact R4
  have HS5 : Hid (Sd (W4.alloc (.cells #[.string n.path, .int .i64 n.a, .int .i64 n.b, .int .i64 n.c, .string n.pre, .slice ao4 l.length cap4] 32)) (.slice ao4 l.length cap4) l) := d4.sd.later ((Below.refl _ _).alloc (Nat.le_refl _) _)
  have q6 := iF _ (.slice ao4 l.length cap4) B5 HS5.out h1 h2 hl HA.out
  clear iF B4 d4 R4
  go_wp2_with fail
  refine q6.mono ?_
  rintro e W6 ⟨rfl, b6⟩
  have R6 := rowKeep HR4.out b6
  have R7 := rowKeep HR5.out b6
  have B6 : Below w.heap.size w W6 := B5.trans (b6.mono B5.size)
  have B6' : Below w.heap.size w W6.drew := Below.drew B6
  obtain ⟨v4, hv4⟩ : ∃ v4, v4 = Value.slice ao4 l.length cap4 := ⟨_, rfl⟩
  have HS6 : Hid (Sd W6.drew v4 l) := by rw [hv4]; exact HS5.out.later (Below.drew b6)
  rw [← hv4] at R7
  rw [← hv4]
  clear q6 HR4 HR5 HS5 B5 b6 hv4
  have n1 : (x.toList == x.toList) = true := by simp
  go_wp2_with fail
  refine wp_region_held_drew (S := fun w' => w'.cell? ⟨w.heap.size, 0, none⟩ = some (.string n.path) ∧ w'.cell? ⟨w.heap.size, 1, none⟩ = some (.int .i64 n.a) ∧ w'.cell? ⟨w.heap.size, 2, none⟩ = some (.int .i64 n.b) ∧ w'.cell? ⟨w.heap.size, 3, none⟩ = some (.int .i64 n.c) ∧ w'.cell? ⟨w.heap.size, 4, none⟩ = some (.string n.pre) ∧ w'.cell? ⟨w.heap.size, 5, none⟩ = some (v) ∧ w'.cell? ⟨W4.heap.size, 0, none⟩ = some (.string n.path) ∧ w'.cell? ⟨W4.heap.size, 1, none⟩ = some (.int .i64 n.a) ∧ w'.cell? ⟨W4.heap.size, 2, none⟩ = some (.int .i64 n.b) ∧ w'.cell? ⟨W4.heap.size, 3, none⟩ = some (.int .i64 n.c) ∧ w'.cell? ⟨W4.heap.size, 4, none⟩ = some (.string n.pre) ∧ w'.cell? ⟨W4.heap.size, 5, none⟩ = some (v4)) (by kernel_rfl) ⟨row_cells R6 0, row_cells R6 1, row_cells R6 2, row_cells R6 3, row_cells R6 4, row_cells R6 5, row_cells R7 0, row_cells R7 1, row_cells R7 2, row_cells R7 3, row_cells R7 4, row_cells R7 5⟩ (fun hHeld => ?_)
  (refine wpAnyH_take (i := 0) (v := ?v0x1) rfl (by kernel_rfl) (by kernel_rfl) (by kernel_rfl) (fun _ _ _ h => h) (Or.inl ⟨by rfl, ?hy0x1⟩) (by assumption) ?rest0x1; case hy0x1 => (intro w hSw; (try dsimp only at hSw); go_split_ands; go_simp; (try with_reducible rfl)))
  try simp only [Act.put, List.setIfInBounds_toArray, List.set_cons_zero, List.set_cons_succ, List.getElem_toArray, List.getElem_cons_zero, List.getElem_cons_succ]
  (refine wpAnyH_take (i := 1) (v := ?v1x2) rfl (by kernel_rfl) (by kernel_rfl) (by kernel_rfl) (fun _ _ _ h => h) (Or.inl ⟨by rfl, ?hy1x2⟩) (by assumption) ?rest1x2; case hy1x2 => (intro w hSw; (try dsimp only at hSw); go_split_ands; go_simp; (try with_reducible rfl)))
  try simp only [Act.put, List.setIfInBounds_toArray, List.set_cons_zero, List.set_cons_succ, List.getElem_toArray, List.getElem_cons_zero, List.getElem_cons_succ]
  refine wpAnyH_ready (rs := [2]) (by kernel_rfl) (by simp) ?_
  refine AllReadyH.cons rfl (fun K hK => ?_) AllReadyH.nil
  go_simp
  refine (q1 _ B6' hl).mono ?_
  rintro e W7 ⟨v7, rfl, d7, b7⟩
  refine hK.out _ _ ?_ (fun hHeld => ?_)
  · obtain ⟨s0, s1, s2, s3, s4, s5, s6, s7, s8, s9, s10, s11⟩ := hHeld; exact ⟨Ver.keepCell s0 b7, Ver.keepCell s1 b7, Ver.keepCell s2 b7, Ver.keepCell s3 b7, Ver.keepCell s4 b7, Ver.keepCell s5 b7, Ver.keepCell s6 b7, Ver.keepCell s7 b7, Ver.keepCell s8 b7, Ver.keepCell s9 b7, Ver.keepCell s10 b7, Ver.keepCell s11 b7⟩
  clear hK K
  try simp only [Act.put, List.setIfInBounds_toArray, List.set_cons_zero, List.set_cons_succ, List.getElem_toArray, List.getElem_cons_zero, List.getElem_cons_succ]
  have s7 : Sd W7 v4 l := HS6.out.later b7
  refine wpAnyH_ready (rs := [3]) (by kernel_rfl) (by simp) ?_
  refine AllReadyH.cons rfl (fun K hK => ?_) AllReadyH.nil
  go_simp
  refine (q3 _ v4 v7 s7 d7.sd hl).mono ?_
  rintro e W8 ⟨rfl, b8⟩
  refine hK.out _ _ ?_ (fun hHeld => ?_)
  · obtain ⟨s0, s1, s2, s3, s4, s5, s6, s7, s8, s9, s10, s11⟩ := hHeld; exact ⟨Ver.keepCell s0 b8, Ver.keepCell s1 b8, Ver.keepCell s2 b8, Ver.keepCell s3 b8, Ver.keepCell s4 b8, Ver.keepCell s5 b8, Ver.keepCell s6 b8, Ver.keepCell s7 b8, Ver.keepCell s8 b8, Ver.keepCell s9 b8, Ver.keepCell s10 b8, Ver.keepCell s11 b8⟩
  clear hK K
  try simp only [Act.put, List.setIfInBounds_toArray, List.set_cons_zero, List.set_cons_succ, List.getElem_toArray, List.getElem_cons_zero, List.getElem_cons_succ]
  (refine wpAnyH_take (i := 4) (v := ?v4x3) rfl (by kernel_rfl) (by kernel_rfl) (by kernel_rfl) (fun _ _ _ h => h) (Or.inl ⟨by rfl, ?hy4x3⟩) (by assumption) ?rest4x3; case hy4x3 => (intro w hSw; (try dsimp only at hSw); go_split_ands; go_simp; (try with_reducible rfl)))
  try simp only [Act.put, List.setIfInBounds_toArray, List.set_cons_zero, List.set_cons_succ, List.getElem_toArray, List.getElem_cons_zero, List.getElem_cons_succ]
  refine wpAnyH_done (by kernel_rfl) ?_ _
  have B7 : Below w.heap.size w W7 := B6'.trans (b7.mono B6'.size)
  have B8 : Below w.heap.size w W8 := B7.trans (b8.mono B7.size)
  clear hHeld
  go_wp2_with fail
  go_ret
  exact ⟨rfl, B8⟩

end Go.Proofs.YtepcpnnnhdbjgamGreatDoor.Ent

/- Contracts of GetNum, the program's and the specification's: both answer 'getNum' of the bytes, and turn nothing. -/
namespace Go.Proofs.YtepcpnnnhdbjgamGreatDoor.Gets
open Go.RowKit Go.Proofs.YtepcpnnnhdbjgamGreatDoor.Mem Go.Proofs.YtepcpnnnhdbjgamGreatDoor.Plain
set_option linter.unusedVariables false

theorem ret3 {a a' b b' : Int} {c c' : Bool} (h1 : a = a') (h2 : b = b') (h3 : c = c') : Ending.returned (.tuple #[.int .i64 a, .int .i64 b, .bool c]) = .returned (.tuple #[.int .i64 a', .int .i64 b', .bool c']) := by rw [h1, h2, h3]

theorem getNum_out {xs : List Int} {at_ : Int} (h : at_ < 0 ∨ (xs.length : Int) ≤ at_) : getNum xs at_ = (0, 0, false) := by
  unfold getNum; rw [if_neg (by omega)]
theorem getNum_none {xs : List Int} {a : Nat} (ha : a < xs.length) (h : dec 0 0 1 (xs.drop a) = none) : getNum xs (a : Int) = (0, 0, false) := by
  unfold getNum; rw [if_pos (by omega)]; simp [h]
theorem getNum_some {xs : List Int} {a : Nat} {n : Int} {k : Nat} (ha : a < xs.length) (h : dec 0 0 1 (xs.drop a) = some (n, k)) : getNum xs (a : Int) = (n, (a : Int) + k, true) := by
  unfold getNum; rw [if_pos (by omega)]; simp [h]

theorem drop_at {xs : List Int} {a k : Nat} {c : Int} (h : xs[a + k]? = some c) : xs.drop (a + k) = c :: xs.drop (a + (k + 1)) := by
  obtain ⟨hk, rfl⟩ := List.getElem?_eq_some_iff.1 h
  rw [List.drop_eq_getElem_cons hk]; rfl

theorem dec_more {k : Nat} {N W c : Int} {r : List Int} (h5 : k ≠ 5) (hc : 128 ≤ c) : dec k N W (c :: r) = dec (k + 1) (N + c % 128 * W) (W * 128) r := by
  rw [dec, if_neg h5, if_pos hc]
theorem dec_five {N W c : Int} {r : List Int} : dec 5 N W (c :: r) = none := by rw [dec, if_pos rfl]
theorem dec_bad {k : Nat} {N W c : Int} {r : List Int} (h5 : k ≠ 5) (hc : c < 128) (hb : 1000000000 < N + c % 128 * W ∨ (0 < k ∧ c % 128 = 0)) : dec k N W (c :: r) = none := by
  rw [dec, if_neg h5, if_neg (by omega), if_pos hb]
theorem dec_good {k : Nat} {N W c : Int} {r : List Int} (h5 : k ≠ 5) (hc : c < 128) (hb : ¬ (1000000000 < N + c % 128 * W ∨ (0 < k ∧ c % 128 = 0))) : dec k N W (c :: r) = some (N + c % 128 * W, k + 1) := by
  rw [dec, if_neg h5, if_neg (by omega), if_neg hb]

theorem pow_bd {k : Nat} (hk : k < 5) : 1 ≤ (128 : Int) ^ k ∧ (128 : Int) ^ k ≤ 268435456 := by
  rcases (show k = 0 ∨ k = 1 ∨ k = 2 ∨ k = 3 ∨ k = 4 by omega) with rfl | rfl | rfl | rfl | rfl <;> decide
theorem prod_bd {c W : Int} (hW : 1 ≤ W) : 0 ≤ c % 128 * W ∧ c % 128 * W ≤ 127 * W :=
  ⟨Int.mul_nonneg (by omega) (by omega), Int.mul_le_mul_of_nonneg_right (by omega) (by omega)⟩

set_option maxHeartbeats 1000000 in
theorem get_impl (w : World) (v : Value) (xs : List Int) (at_ : Int) (h : Sl w v (bs xs)) (hb : Byt xs) (hx : xs.length ≤ 140737488355328) (hlo : -9223372036854775808 ≤ at_) (hhi : at_ ≤ 9223372036854775807) :
    Calls Tryz.prog 85 #[v, .int .i64 at_] w fun e w' => e = .returned (.tuple #[.int .i64 (getNum xs at_).1, .int .i64 (getNum xs at_).2.1, .bool (getNum xs at_).2.2]) ∧ w' = w := by
  obtain ⟨ao, cap, rfl, hc1, _, hr1⟩ := h
  rw [bs_len] at hr1 hc1
  rw [bs_len]
  by_cases h0 : at_ < 0
  · have HG : Hid (getNum xs at_ = (0, 0, false)) := getNum_out (.inl h0)
    go_enter Tryz.func85, Tryz.ntmps85
    go_wp2
    go_ret3
    exact ⟨by rw [HG.out]; rfl, rfl⟩
  by_cases h1 : (xs.length : Int) ≤ at_
  · have HG : Hid (getNum xs at_ = (0, 0, false)) := getNum_out (.inr h1)
    go_enter Tryz.func85, Tryz.ntmps85
    go_wp2
    go_ret3
    exact ⟨by rw [HG.out]; rfl, rfl⟩
  obtain ⟨a, rfl⟩ := Int.eq_ofNat_of_zero_le (show 0 ≤ at_ by omega)
  have ha : a < xs.length := by omega
  have hd0 : decide ((a : Int) < 0) = false := by simp
  obtain ⟨b, off, rfl, hcells⟩ := hr1 (by omega)
  clear h0 h1 hlo hhi
  go_enter Tryz.func85, Tryz.ntmps85
  go_wp2
  go_loop [7, 8, 24] (fun n wo i => ∃ (k : Nat) (N W : Int), k ≤ xs.length - a ∧ k ≤ 5 ∧ i = .int .i64 k ∧ n = .int .i64 N ∧ wo = .int .i64 W ∧ W = 128 ^ k ∧ 0 ≤ N ∧ N < W ∧ dec 0 0 1 (xs.drop a) = dec k N W (xs.drop (a + k))) (fun _ _ i => (xs.length - a) - (intOf i).toNat)
  case atStart => exact ⟨0, 0, 1, Nat.zero_le _, by omega, rfl, rfl, rfl, rfl, by omega, by omega, rfl⟩
  case round =>
    obtain ⟨k, N, W, hk, hk5, rfl, rfl, rfl, hW0, hN0, hN1, hD0⟩ := hrel
    have HD : Hid (W = 128 ^ k ∧ dec 0 0 1 (xs.drop a) = dec k N W (xs.drop (a + k))) := ⟨hW0, hD0⟩
    clear hD0 hW0
    by_cases hlt : k < xs.length - a
    · obtain ⟨c, hc0⟩ : ∃ c, xs[a + k]? = some c := ⟨xs[a + k]'(by omega), by simp⟩
      have hcell : w.cell? ⟨b, off + a + k, none⟩ = some (.int .u8 c) := by
        rw [Nat.add_assoc, hcells (a + k) (by omega), bs_get, hc0]; rfl
      have hby := hb.at hc0
      have HC : Hid (xs.drop (a + k) = c :: xs.drop (a + (k + 1))) := drop_at hc0
      clear hcells hc0 hb
      by_cases h5 : k = 5
      · have HR : Hid (getNum xs (a : Int) = (0, 0, false)) := getNum_none ha (by rw [HD.out.2, HC.out, h5]; exact dec_five)
        have h5' : ((k : Int) == 5) = true := by simp; omega
        clear HD HC h5
        go_wp2
        go_ret3
        exact ⟨by rw [HR.out]; rfl, rfl⟩
      have hWb : 1 ≤ W ∧ W ≤ 268435456 := by rw [HD.out.1]; exact pow_bd (by omega)
      have hpb := prod_bd (c := c) hWb.1
      have h5' : ((k : Int) == 5) = false := by simp; omega
      by_cases hge : 128 ≤ c
      · have HR : Hid (W * 128 = 128 ^ (k + 1) ∧ dec 0 0 1 (xs.drop a) = dec (k + 1) (N + c % 128 * W) (W * 128) (xs.drop (a + (k + 1)))) :=
          ⟨by rw [HD.out.1, Int.pow_succ], by rw [HD.out.2, HC.out, dec_more h5 hge]⟩
        clear HD HC
        go_wp2
        go_round
        case rel => exact ⟨k + 1, N + c % 128 * W, W * 128, by omega, by omega, by go_num, rfl, rfl, HR.out.1, by omega, by omega, HR.out.2⟩
        case measure => simp [intOf]; omega
      · have hlt8 : c < 128 := by omega
        by_cases hbig : 1000000000 < N + c % 128 * W
        · have HR : Hid (getNum xs (a : Int) = (0, 0, false)) := getNum_none ha (by rw [HD.out.2, HC.out]; exact dec_bad h5 hlt8 (.inl hbig))
          have hdec : decide (1000000000 < N + c % 128 * W) = true := by simpa using hbig
          clear HD HC
          go_wp2
          go_ret3
          exact ⟨by rw [HR.out]; rfl, rfl⟩
        · have hdec : decide (1000000000 < N + c % 128 * W) = false := by simpa using hbig
          by_cases hk0 : 0 < k
          · have hdk : decide ((0 : Int) < (k : Int)) = true := by simpa using hk0
            by_cases hz : c % 128 = 0
            · have HR : Hid (getNum xs (a : Int) = (0, 0, false)) := getNum_none ha (by rw [HD.out.2, HC.out]; exact dec_bad h5 hlt8 (.inr ⟨hk0, hz⟩))
              have hz' : (c % 128 == 0) = true := by simpa using hz
              clear HD HC hz
              go_wp2
              go_ret3
              exact ⟨by rw [HR.out]; rfl, rfl⟩
            · have HR : Hid (getNum xs (a : Int) = (N + c % 128 * W, (a : Int) + ((k + 1 : Nat) : Int), true)) := getNum_some ha (by rw [HD.out.2, HC.out]; exact dec_good h5 hlt8 (by omega))
              have hz' : (c % 128 == 0) = false := by simpa using hz
              clear HD HC hz
              go_wp2
              go_ret3
              exact ⟨by rw [HR.out]; exact ret3 rfl (by dsimp only; omega) rfl, rfl⟩
          · have hdk : decide ((0 : Int) < (k : Int)) = false := by simpa using hk0
            have HR : Hid (getNum xs (a : Int) = (N + c % 128 * W, (a : Int) + ((k + 1 : Nat) : Int), true)) := getNum_some ha (by rw [HD.out.2, HC.out]; exact dec_good h5 hlt8 (by omega))
            clear HD HC
            go_wp2
            go_ret3
            exact ⟨by rw [HR.out]; exact ret3 rfl (by dsimp only; omega) rfl, rfl⟩
    · have HR : Hid (getNum xs (a : Int) = (0, 0, false)) := getNum_none ha (by rw [HD.out.2, List.drop_eq_nil_of_le (by omega)]; rfl)
      clear HD
      go_wp2
      go_ret3
      exact ⟨by rw [HR.out]; rfl, rfl⟩

theorem and127b {c : Int} (h : 0 ≤ c ∧ c ≤ 255) : bits .and .i64 c 127 = c % 128 := and127 h.1 (by omega)

set_option maxHeartbeats 1000000 in
theorem get_spec (w : World) (v : Value) (xs : List Int) (at_ : Int) (h : Sl w v (bs xs)) (hb : Byt xs) (hx : xs.length ≤ 140737488355328) (hlo : -9223372036854775808 ≤ at_) (hhi : at_ ≤ 9223372036854775807) :
    Calls Tryz.prog 48 #[v, .int .i64 at_] w fun e w' => e = .returned (.tuple #[.int .i64 (getNum xs at_).1, .int .i64 (getNum xs at_).2.1, .bool (getNum xs at_).2.2]) ∧ w' = w := by
  obtain ⟨ao, cap, rfl, hc1, _, hr1⟩ := h
  rw [bs_len] at hr1 hc1
  rw [bs_len]
  by_cases h0 : at_ < 0
  · have HG : Hid (getNum xs at_ = (0, 0, false)) := getNum_out (.inl h0)
    have hd : decide (0 ≤ at_) = false := by simp; omega
    go_enter Tryz.func48, Tryz.ntmps48
    go_wp2
    refine wp_loop_rounds 1 ?_; rw [rounds_succ]
    go_wp2
    go_ret3
    exact ⟨by rw [HG.out]; rfl, rfl⟩
  by_cases h1 : (xs.length : Int) ≤ at_
  · have HG : Hid (getNum xs at_ = (0, 0, false)) := getNum_out (.inr h1)
    have hd : decide (0 ≤ at_) = true := by simp; omega
    have hd2 : decide (at_ < (xs.length : Int)) = false := by simp; omega
    go_enter Tryz.func48, Tryz.ntmps48
    go_wp2
    refine wp_loop_rounds 1 ?_; rw [rounds_succ]
    go_wp2
    go_ret3
    exact ⟨by rw [HG.out]; rfl, rfl⟩
  obtain ⟨a, rfl⟩ := Int.eq_ofNat_of_zero_le (show 0 ≤ at_ by omega)
  have ha : a < xs.length := by omega
  obtain ⟨b, off, rfl, hcells⟩ := hr1 (by omega)
  clear h0 h1 hlo hhi
  have hda : decide ((0 : Int) ≤ (a : Int)) = true := by simp
  have hdb : decide ((a : Int) < (xs.length : Int)) = true := by simp; omega
  go_enter Tryz.func48, Tryz.ntmps48
  go_wp2
  go_loop [7, 8] (fun n i => ∃ (k : Nat) (N W : Int), a + k ≤ xs.length ∧ k ≤ 5 ∧ i = .int .i64 k ∧ n = .int .i64 N ∧ W = 128 ^ k ∧ 0 ≤ N ∧ N < W ∧ dec 0 0 1 (xs.drop a) = dec k N W (xs.drop (a + k))) (fun _ i => 5 - (intOf i).toNat)
  case atStart => exact ⟨0, 0, 1, by omega, by omega, rfl, rfl, rfl, by omega, by omega, rfl⟩
  case round =>
    obtain ⟨k, N, W, hk, hk5, rfl, rfl, hW0, hN0, hN1, hD0⟩ := hrel
    have HD : Hid (W = 128 ^ k ∧ dec 0 0 1 (xs.drop a) = dec k N W (xs.drop (a + k))) := ⟨hW0, hD0⟩
    clear hD0 hW0
    by_cases h5 : k = 5
    · have h5' : decide ((k : Int) < 5) = false := by simp; omega
      have HR : Hid (getNum xs (a : Int) = (0, 0, false)) := by
        by_cases hlt : a + k < xs.length
        · exact getNum_none ha (by subst h5; rw [HD.out.2, List.drop_eq_getElem_cons hlt]; exact dec_five)
        · exact getNum_none ha (by rw [HD.out.2, List.drop_eq_nil_of_le (by omega)]; rfl)
      clear HD h5
      go_wp2
      go_ret3
      exact ⟨by rw [HR.out]; rfl, rfl⟩
    have h5' : decide ((k : Int) < 5) = true := by simp; omega
    by_cases hlt : a + k < xs.length
    · have hlt' : decide ((a : Int) + (k : Int) < (xs.length : Int)) = true := by simp; omega
      obtain ⟨c, hc0⟩ : ∃ c, xs[a + k]? = some c := ⟨xs[a + k]'(by omega), by simp⟩
      have hcell : w.cell? ⟨b, off + (a + k), none⟩ = some (.int .u8 c) := by
        rw [hcells (a + k) (by omega), bs_get, hc0]; rfl
      have hby := hb.at hc0
      have HC : Hid (xs.drop (a + k) = c :: xs.drop (a + (k + 1))) := drop_at hc0
      clear hcells hc0 hb
      have hWb : 1 ≤ W ∧ W ≤ 268435456 := by rw [HD.out.1]; exact pow_bd (by omega)
      have hpb := prod_bd (c := c) hWb.1
      have hmask := and127b hby
      have hor : bits .or .i64 N (wrap64 (c % 128 * 2 ^ (7 * k))) = N + c % 128 * W := by
        have e : (128 : Int) ^ k = 2 ^ (7 * k) := by rw [Int.pow_mul]; rfl
        have hw : wrap64 (c % 128 * 2 ^ (7 * k)) = c % 128 * 2 ^ (7 * k) := IntWalk.wrap64_in _ (by rw [← e, ← HD.out.1]; omega)
        rw [hw, HD.out.1]; exact or_join (by omega) hN0 (by rw [← HD.out.1]; exact hN1) (by omega) (by omega)
      by_cases hge : 127 < c
      · have HR : Hid (W * 128 = 128 ^ (k + 1) ∧ dec 0 0 1 (xs.drop a) = dec (k + 1) (N + c % 128 * W) (W * 128) (xs.drop (a + (k + 1)))) :=
          ⟨by rw [HD.out.1, Int.pow_succ], by rw [HD.out.2, HC.out, dec_more h5 (by omega)]⟩
        clear HD HC
        go_wp2
        go_round
        case rel => exact ⟨k + 1, N + c % 128 * W, W * 128, by omega, by omega, by go_num, rfl, HR.out.1, by omega, by omega, HR.out.2⟩
        case measure => simp [intOf]; omega
      · have hlt8 : c < 128 := by omega
        by_cases hk0 : 0 < k
        · have hdk : decide ((0 : Int) < (k : Int)) = true := by simpa using hk0
          by_cases hz : c = 0
          · have HR : Hid (getNum xs (a : Int) = (0, 0, false)) := getNum_none ha (by rw [HD.out.2, HC.out]; exact dec_bad h5 hlt8 (.inr ⟨hk0, by omega⟩))
            have hz' : (c == 0) = true := by simpa using hz
            clear HD HC hz
            go_wp2
            go_ret3
            exact ⟨by rw [HR.out]; rfl, rfl⟩
          · have hz' : (c == 0) = false := by simpa using hz
            by_cases hbig : 1000000000 < N + c % 128 * W
            · have HR : Hid (getNum xs (a : Int) = (0, 0, false)) := getNum_none ha (by rw [HD.out.2, HC.out]; exact dec_bad h5 hlt8 (.inl hbig))
              have hdec : decide (1000000000 < N + c % 128 * W) = true := by simpa using hbig
              clear HD HC hz
              go_wp2
              go_ret3
              exact ⟨by rw [HR.out]; rfl, rfl⟩
            · have HR : Hid (getNum xs (a : Int) = (N + c % 128 * W, (a : Int) + ((k + 1 : Nat) : Int), true)) := getNum_some ha (by rw [HD.out.2, HC.out]; exact dec_good h5 hlt8 (by omega))
              have hdec : decide (1000000000 < N + c % 128 * W) = false := by simpa using hbig
              clear HD HC hz
              go_wp2
              go_ret3
              exact ⟨by rw [HR.out]; exact ret3 rfl (by dsimp only; omega) rfl, rfl⟩
        · have hdk : decide ((0 : Int) < (k : Int)) = false := by simpa using hk0
          by_cases hbig : 1000000000 < N + c % 128 * W
          · have HR : Hid (getNum xs (a : Int) = (0, 0, false)) := getNum_none ha (by rw [HD.out.2, HC.out]; exact dec_bad h5 hlt8 (.inl hbig))
            have hdec : decide (1000000000 < N + c % 128 * W) = true := by simpa using hbig
            clear HD HC
            go_wp2
            go_ret3
            exact ⟨by rw [HR.out]; rfl, rfl⟩
          · have HR : Hid (getNum xs (a : Int) = (N + c % 128 * W, (a : Int) + ((k + 1 : Nat) : Int), true)) := getNum_some ha (by rw [HD.out.2, HC.out]; exact dec_good h5 hlt8 (by omega))
            have hdec : decide (1000000000 < N + c % 128 * W) = false := by simpa using hbig
            clear HD HC
            go_wp2
            go_ret3
            exact ⟨by rw [HR.out]; exact ret3 rfl (by dsimp only; omega) rfl, rfl⟩
    · have hlt' : decide ((a : Int) + (k : Int) < (xs.length : Int)) = false := by simp; omega
      have HR : Hid (getNum xs (a : Int) = (0, 0, false)) := getNum_none ha (by rw [HD.out.2, List.drop_eq_nil_of_le (by omega)]; rfl)
      clear HD
      go_wp2
      go_ret3
      exact ⟨by rw [HR.out]; rfl, rfl⟩

end Go.Proofs.YtepcpnnnhdbjgamGreatDoor.Gets

/- Contracts of GetText, the program's and the specification's: both answer 'getText' of the bytes, and turn nothing. -/
namespace Go.Proofs.YtepcpnnnhdbjgamGreatDoor.GetT
open Go.RowKit Go.Proofs.YtepcpnnnhdbjgamGreatDoor.Mem Go.Proofs.YtepcpnnnhdbjgamGreatDoor.Plain
set_option linter.unusedVariables false

theorem conv_none (ao : Option Addr) (c : Nat) (w : World) : (convert 47 9 (.slice ao 0 c)).run Tryz.prog w = .ok (.string ⟨#[]⟩) w := by
  cases ao with
  | none => rw [run_convert_bytes_string w 47 9 5 none 0 c Tryz.underlying47 Tryz.underlying5 Tryz.underlying9]; rfl
  | some a => exact run_convert_bytes_back w 47 9 5 a c [] Tryz.underlying47 Tryz.underlying5 Tryz.underlying9 (fun j hj => by simp at hj)

theorem conv_some {w : World} {xs : List Int} {b off p n c : Nat} (hb : Byt xs) (hcell : ∀ j, j < xs.length → w.cell? ⟨b, off + j, none⟩ = (bs xs)[j]?) (hn : p + n ≤ xs.length) :
    (convert 47 9 (.slice (some ⟨b, off + p, none⟩) n c)).run Tryz.prog w = .ok (.string (txt ((xs.drop p).take n))) w := by
  have hl : (u8s ((xs.drop p).take n)).length = n := by rw [u8s_len]; simp; omega
  have h := run_convert_bytes_back (P := Tryz.prog) w 47 9 5 ⟨b, off + p, none⟩ c (u8s ((xs.drop p).take n)) Tryz.underlying47 Tryz.underlying5 Tryz.underlying9 (fun j hj => by
    rw [hl] at hj
    rw [Addr.add_lit, Nat.add_assoc, hcell (p + j) (by omega), bs_get]
    have hx : xs[p + j]? = some (xs[p + j]'(by omega)) := by simp
    have hy := hb.at hx
    rw [hx]
    simp only [u8s, List.getElem_map, List.getElem_take, List.getElem_drop, Option.map_some]
    rw [u8_back hy])
  rw [hl] at h
  exact h

theorem rets {s s' : ByteArray} {b b' : Int} {c c' : Bool} (h1 : s = s') (h2 : b = b') (h3 : c = c') : Ending.returned (.tuple #[.string s, .int .i64 b, .bool c]) = .returned (.tuple #[.string s', .int .i64 b', .bool c']) := by rw [h1, h2, h3]

set_option maxRecDepth 1000000 in
set_option maxHeartbeats 1000000 in
theorem text_impl (w : World) (v : Value) (xs : List Int) (at_ : Int) (h : Sl w v (bs xs)) (hb : Byt xs) (hx : xs.length ≤ 140737488355328) (hlo : -9223372036854775808 ≤ at_) (hhi : at_ ≤ 9223372036854775807) :
    Calls Tryz.prog 66 #[v, .int .i64 at_] w fun e w' => e = .returned (.tuple #[.string (getText xs at_).1, .int .i64 (getText xs at_).2.1, .bool (getText xs at_).2.2]) ∧ w' = w := by
  have hget := Gets.get_impl w v xs at_ h hb hx hlo hhi
  obtain ⟨n, p, ok, hr⟩ : ∃ n p ok, getNum xs at_ = (n, p, ok) := ⟨_, _, _, rfl⟩
  rw [hr] at hget
  have HR : Hid (getNum xs at_ = (n, p, ok)) := hr
  clear hr
  obtain ⟨ao, cap, rfl, hc1, hnone, hr1⟩ := h
  rw [bs_len] at hr1 hc1 hget
  rw [bs_len]
  cases ok with
  | false =>
    have HG : Hid (getText xs at_ = (⟨#[]⟩, 0, false)) := getText_no HR.out (.inl rfl)
    go_enter Tryz.func66, Tryz.ntmps66
    go_wp2_with (go_at_call 85; refine hget.mono ?_; rintro e w' ⟨rfl, rfl⟩)
    go_ret3
    exact ⟨by rw [HG.out]; rfl, rfl⟩
  | true =>
    have hbd := getNum_bd HR.out
    obtain ⟨n, rfl⟩ := Int.eq_ofNat_of_zero_le hbd.1
    obtain ⟨p, rfl⟩ := Int.eq_ofNat_of_zero_le (show 0 ≤ p by omega)
    by_cases hbig : (xs.length : Int) - (p : Int) < (n : Int)
    · have HG : Hid (getText xs at_ = (⟨#[]⟩, 0, false)) := getText_no HR.out (.inr hbig)
      go_enter Tryz.func66, Tryz.ntmps66
      go_wp2_with (go_at_call 85; refine hget.mono ?_; rintro e w' ⟨rfl, rfl⟩)
      go_ret3
      exact ⟨by rw [HG.out]; rfl, rfl⟩
    · have HG : Hid (getText xs at_ = (txt ((xs.drop p).take n), (p : Int) + (n : Int), true)) := getText_yes HR.out (by omega)
      obtain ⟨b, off, rfl, hcell⟩ := hr1 (by omega)
      by_cases h0 : n = 0
      · subst h0
        have hconv : ∀ ao c w, (convert 47 9 (.slice ao 0 c)).run Tryz.prog w = .ok (.string ⟨#[]⟩) w := conv_none
        have HT : Hid (txt ((xs.drop p).take 0) = ⟨#[]⟩) := rfl
        clear hr1 hcell
        go_enter Tryz.func66, Tryz.ntmps66
        go_wp2_with (go_at_call 85; refine hget.mono ?_; rintro e w' ⟨rfl, rfl⟩)
        all_goals go_ret3
        all_goals exact ⟨by rw [HG.out]; exact rets rfl (by dsimp only; omega) rfl, rfl⟩
      · have hconv := conv_some (c := cap - p) hb hcell (show p + n ≤ xs.length by omega)
        clear hr1 hcell
        go_enter Tryz.func66, Tryz.ntmps66
        go_wp2_with (go_at_call 85; refine hget.mono ?_; rintro e w' ⟨rfl, rfl⟩)
        all_goals go_ret3
        all_goals exact ⟨by rw [HG.out]; exact rets rfl (by dsimp only) rfl, rfl⟩

set_option maxRecDepth 1000000 in
set_option maxHeartbeats 1000000 in
theorem text_spec (w : World) (v : Value) (xs : List Int) (at_ : Int) (h : Sl w v (bs xs)) (hb : Byt xs) (hx : xs.length ≤ 140737488355328) (hlo : -9223372036854775808 ≤ at_) (hhi : at_ ≤ 9223372036854775807) :
    Calls Tryz.prog 28 #[v, .int .i64 at_] w fun e w' => e = .returned (.tuple #[.string (getText xs at_).1, .int .i64 (getText xs at_).2.1, .bool (getText xs at_).2.2]) ∧ w' = w := by
  have hget := Gets.get_spec w v xs at_ h hb hx hlo hhi
  obtain ⟨n, p, ok, hr⟩ : ∃ n p ok, getNum xs at_ = (n, p, ok) := ⟨_, _, _, rfl⟩
  rw [hr] at hget
  have HR : Hid (getNum xs at_ = (n, p, ok)) := hr
  clear hr
  obtain ⟨ao, cap, rfl, hc1, hnone, hr1⟩ := h
  rw [bs_len] at hr1 hc1 hget
  rw [bs_len]
  cases ok with
  | false =>
    have HG : Hid (getText xs at_ = (⟨#[]⟩, 0, false)) := getText_no HR.out (.inl rfl)
    go_enter Tryz.func28, Tryz.ntmps28
    go_wp2_with (go_at_call 48; refine hget.mono ?_; rintro e w' ⟨rfl, rfl⟩)
    go_ret3
    exact ⟨by rw [HG.out]; rfl, rfl⟩
  | true =>
    have hbd := getNum_bd HR.out
    obtain ⟨n, rfl⟩ := Int.eq_ofNat_of_zero_le hbd.1
    obtain ⟨p, rfl⟩ := Int.eq_ofNat_of_zero_le (show 0 ≤ p by omega)
    by_cases hbig : (xs.length : Int) - (p : Int) < (n : Int)
    · have HG : Hid (getText xs at_ = (⟨#[]⟩, 0, false)) := getText_no HR.out (.inr hbig)
      go_enter Tryz.func28, Tryz.ntmps28
      go_wp2_with (go_at_call 48; refine hget.mono ?_; rintro e w' ⟨rfl, rfl⟩)
      go_ret3
      exact ⟨by rw [HG.out]; rfl, rfl⟩
    · have HG : Hid (getText xs at_ = (txt ((xs.drop p).take n), (p : Int) + (n : Int), true)) := getText_yes HR.out (by omega)
      obtain ⟨b, off, rfl, hcell⟩ := hr1 (by omega)
      by_cases h0 : n = 0
      · subst h0
        have hconv : ∀ ao c w, (convert 47 9 (.slice ao 0 c)).run Tryz.prog w = .ok (.string ⟨#[]⟩) w := conv_none
        have HT : Hid (txt ((xs.drop p).take 0) = ⟨#[]⟩) := rfl
        clear hr1 hcell
        go_enter Tryz.func28, Tryz.ntmps28
        go_wp2_with (go_at_call 48; refine hget.mono ?_; rintro e w' ⟨rfl, rfl⟩)
        all_goals go_ret3
        all_goals exact ⟨by rw [HG.out]; exact rets rfl (by dsimp only; omega) rfl, rfl⟩
      · have hconv := conv_some (c := cap - p) hb hcell (show p + n ≤ xs.length by omega)
        clear hr1 hcell
        go_enter Tryz.func28, Tryz.ntmps28
        go_wp2_with (go_at_call 48; refine hget.mono ?_; rintro e w' ⟨rfl, rfl⟩)
        all_goals go_ret3
        all_goals exact ⟨by rw [HG.out]; exact rets rfl (by dsimp only) rfl, rfl⟩

end Go.Proofs.YtepcpnnnhdbjgamGreatDoor.GetT

/- Contracts of the laws' own small functions on lists of texts: a copy, a comparison, how much there is, marks laid, marks looked for. -/
namespace Go.Proofs.YtepcpnnnhdbjgamGreatDoor.Strs
open Go.RowKit Go.Proofs.YtepcpnnnhdbjgamGreatDoor.Mem Go.Proofs.YtepcpnnnhdbjgamGreatDoor.Bytes
set_option linter.unusedVariables false

theorem info9 : (Tryz.prog.info? 9).map (fun i => (i.zero, i.size, i.bytes)) = some (some (.string ⟨#[]⟩), 1, 16) := by kernel_rfl

theorem tot_take (l : List ByteArray) (k : Nat) (s : ByteArray) (h : l[k]? = some s) : Puts.tot (l.take (k + 1)) = Puts.tot (l.take k) + s.size := by
  induction l generalizing k with
  | nil => simp at h
  | cons x r ih =>
    cases k with
    | zero => simp at h; subst h; simp [Puts.tot]
    | succ k => simp at h; simp only [List.take_succ_cons, Puts.tot]; rw [ih k h]; omega

/-- the digits of a number, at most f of them more -/
def digF : Nat → Nat → List UInt8
  | 0, _ => []
  | f + 1, n => if n = 0 then [] else digF f (n / 10) ++ [UInt8.ofNat (48 + n % 10)]
def dig (n : Nat) : List UInt8 := digF n n
theorem digF_any (f : Nat) : ∀ g n, n ≤ f → n ≤ g → digF f n = digF g n := by
  induction f with
  | zero =>
    intro g n h1 h2
    obtain rfl : n = 0 := by omega
    cases g with
    | zero => rfl
    | succ g => rw [digF, digF, if_pos rfl]
  | succ f ih =>
    intro g n h1 h2
    cases g with
    | zero =>
      obtain rfl : n = 0 := by omega
      rw [digF, digF, if_pos rfl]
    | succ g =>
      rw [digF, digF]
      split
      · rfl
      · rw [ih g (n / 10) (by omega) (by omega)]
theorem dig_zero : dig 0 = [] := rfl
theorem dig_step {n : Nat} (h : ¬ n = 0) : dig n = dig (n / 10) ++ [UInt8.ofNat (48 + n % 10)] := by
  unfold dig
  obtain ⟨m, rfl⟩ : ∃ m, n = m + 1 := ⟨n - 1, by omega⟩
  rw [digF, if_neg h, digF_any m ((m + 1) / 10) ((m + 1) / 10) (by omega) (by omega)]
/-- the text of a mark -/
def mt (n : Nat) : ByteArray := ⟨(109 :: dig n).toArray⟩

theorem conv_byte (w : World) (x : Int) (hx : 0 ≤ x ∧ x ≤ 255) : ∀ (u : Int), u = x → (convert 47 9 (.slice (some ⟨w.heap.size, 0, none⟩) 1 1)).run Tryz.prog (w.alloc (.cells #[.int .u8 u] 5)) = .ok (.string ⟨#[UInt8.ofNat x.toNat]⟩) (w.alloc (.cells #[.int .u8 u] 5)) := by
  intro u hu
  subst hu
  refine run_convert_bytes_back (P := Tryz.prog) _ 47 9 5 ⟨w.heap.size, 0, none⟩ 1 [UInt8.ofNat u.toNat] Tryz.underlying47 Tryz.underlying5 Tryz.underlying9 (fun j hj => ?_)
  obtain rfl : j = 0 := by simp at hj; omega
  rw [Addr.add_lit, cell_of_row _ w.heap.size 0 #[.int .u8 u] 5 (0, 0) (heap_alloc_new w _)]
  simp only [List.getElem_cons_zero]
  rw [UInt8.toNat_ofNat', show ((u.toNat % 2 ^ 8 : Nat) : Int) = u by omega]
  rfl

theorem ba_cons (c : UInt8) (d : List UInt8) : (⟨#[c]⟩ : ByteArray) ++ ⟨d.toArray⟩ = ⟨(c :: d).toArray⟩ := by
  apply ByteArray.ext
  rw [ByteArray.data_append]
  simp

theorem ofNat48 (x : Nat) : (48 : UInt8) + UInt8.ofNat x = UInt8.ofNat (48 + x) := by
  rw [UInt8.ofNat_add]
  rfl

set_option maxRecDepth 1000000 in
set_option maxHeartbeats 1000000 in
/-- markText of a number above 0. -/
theorem mark_text (w : World) (k : Nat) (hk : 1 ≤ k) (hk2 : k ≤ 140737488355328) :
    Calls Tryz.prog 53 #[.int .i64 (k : Int)] w fun e w' => e = .returned (.string (mt k)) ∧ Below w.heap.size w w' := by
  go_enter Tryz.func53, Tryz.ntmps53
  go_wp2
  go_loopw [0, 3] (fun kk o wr => ∃ (m : Nat) (d : List UInt8), kk = .int .i64 (m : Int) ∧ o = .string ⟨d.toArray⟩ ∧ m + d.length ≤ k ∧ dig m ++ d = dig k ∧ Below w.heap.size w wr) (fun kk _ _ => (intOf kk).toNat)
  case atStart => exact ⟨k, [], rfl, rfl, by simp, by simp, Below.refl _ _⟩
  case round =>
    obtain ⟨m, d, rfl, rfl, hmd, hD0, hb⟩ := hrel
    have HD : Hid (dig m ++ d = dig k) := hD0
    have hsz := hb.size
    clear hD0
    by_cases h0 : 0 < m
    · have hconv := conv_byte wr (48 + (m : Int) % 10) (by omega)
      have HS : Hid (dig (m / 10) ++ (UInt8.ofNat (48 + m % 10) :: d) = dig k) := by
        show _ = _
        rw [← HD.out, dig_step (show ¬ m = 0 by omega), List.append_assoc]
        rfl
      go_wp2
      go_roundw
      case rel => exact ⟨m / 10, UInt8.ofNat (48 + m % 10) :: d, by go_num, by rw [ofNat48, ba_cons], by simp; omega, HS.out, hb.alloc hsz _⟩
      case measure => simp [intOf]; omega
    · go_wp2
      go_ret
      refine ⟨?_, hb⟩
      have h1 := HD.out
      obtain rfl : m = 0 := by omega
      rw [dig_zero, List.nil_append] at h1
      show Ending.returned (.string (_ ++ _)) = _
      rw [ba_cons, h1]
      rfl

/-- marks from k on, as texts -/
def mts (k n : Nat) : List ByteArray := (List.range n).map fun i => mt (k + i)
theorem mts_len (k n : Nat) : (mts k n).length = n := by simp [mts]
theorem mts_get (k n j : Nat) (h : j < n) : (mts k n)[j]? = some (mt (k + j)) := by simp [mts, h]

end Go.Proofs.YtepcpnnnhdbjgamGreatDoor.Strs

/- Contracts of GetTexts, the program's and the specification's: both answer 'getTexts' of the bytes; the list lies in new memory; nothing old is turned. -/
namespace Go.Proofs.YtepcpnnnhdbjgamGreatDoor.GetTs
open Go.RowKit Go.Proofs.YtepcpnnnhdbjgamGreatDoor.Mem Go.Proofs.YtepcpnnnhdbjgamGreatDoor.Plain Go.Proofs.YtepcpnnnhdbjgamGreatDoor.Laws
set_option linter.unusedVariables false

theorem one_str (s : ByteArray) : ∀ u ∈ [Value.string s], u.oneCell' = true := by
  intro u hu
  rw [List.mem_singleton] at hu
  rw [hu]
  rfl

theorem Own.emptyS (w : World) (lo : Nat) (h : lo ≤ w.heap.size) : Own (w.alloc (.cells #[] 9)) lo (w.alloc (.cells #[] 9)).heap.size 9 (.slice (some ⟨w.heap.size, 0, none⟩) 0 0) (ss []) :=
  Own.of (World.ownsRow_lit w #[] 0 h (Nat.zero_le _) rfl)
theorem Own.nilS (w : World) (lo hi : Nat) : Own w lo hi 9 (.slice none 0 0) (ss []) :=
  ⟨World.ownsRow_nil w lo 9 1, fun g hg => by simp [Value.ownBlock] at hg⟩

/-- What GetTexts answers, and what of the world it leaves. -/
def Done (xs : List Int) (at_ : Int) (w : World) (e : Ending) (w' : World) : Prop :=
  ∃ v' : Value, e = .returned (.tuple #[v', .int .i64 (getTexts xs at_).2.1, .bool (getTexts xs at_).2.2]) ∧ Own w' w.heap.size w'.heap.size 9 v' (ss (getTexts xs at_).1) ∧ Below w.heap.size w w'

theorem done_no {xs : List Int} {at_ : Int} {w w' : World} {v' : Value} (hg : getTexts xs at_ = ([], 0, false)) (ho : Own w' w.heap.size w'.heap.size 9 v' (ss [])) (hb : Below w.heap.size w w') :
    Done xs at_ w (.returned (.tuple #[v', .int .i64 0, .bool false])) w' := by
  unfold Done
  rw [hg]
  exact ⟨v', rfl, ho, hb⟩
theorem done_yes {xs : List Int} {at_ q : Int} {l : List ByteArray} {w w' : World} {v' : Value} (hg : getTexts xs at_ = (l, q, true)) (ho : Own w' w.heap.size w'.heap.size 9 v' (ss l)) (hb : Below w.heap.size w w') :
    Done xs at_ w (.returned (.tuple #[v', .int .i64 q, .bool true])) w' := by
  unfold Done
  rw [hg]
  exact ⟨v', rfl, ho, hb⟩

set_option maxRecDepth 1000000 in
set_option maxHeartbeats 2000000 in
theorem texts_impl (w : World) (v : Value) (xs : List Int) (at_ : Int) (h : Sl w v (bs xs)) (hb : Byt xs) (hx : xs.length ≤ 140737488355328) (hlo : -9223372036854775808 ≤ at_) (hhi : at_ ≤ 9223372036854775807) :
    Calls Tryz.prog 67 #[v, .int .i64 at_] w fun e w' => Done xs at_ w e w' := by
  obtain ⟨i0, hi, hz0, hz1, hz2⟩ := info_parts Strs.info9
  have hget := Gets.get_impl w v xs at_ h hb hx hlo hhi
  obtain ⟨n, p, ok, hr⟩ : ∃ n p ok, getNum xs at_ = (n, p, ok) := ⟨_, _, _, rfl⟩
  rw [hr] at hget
  have HR : Hid (getNum xs at_ = (n, p, ok)) := hr
  clear hr
  cases ok with
  | false =>
    have HG : Hid (getTexts xs at_ = ([], 0, false)) := getTexts_no HR.out (.inl rfl)
    go_enter Tryz.func67, Tryz.ntmps67
    go_wp2_with (go_at_call 85; refine hget.mono ?_; rintro e w' ⟨rfl, rfl⟩)
    go_ret3
    exact done_no HG.out (Own.nilS _ _ _) (Below.refl _ _)
  | true =>
    have hbd := getNum_bd HR.out
    obtain ⟨n, rfl⟩ := Int.eq_ofNat_of_zero_le hbd.1
    by_cases hbig : (200 : Int) < (n : Int)
    · have HG : Hid (getTexts xs at_ = ([], 0, false)) := getTexts_no HR.out (.inr hbig)
      go_enter Tryz.func67, Tryz.ntmps67
      go_wp2_with (go_at_call 85; refine hget.mono ?_; rintro e w' ⟨rfl, rfl⟩)
      go_ret3
      exact done_no HG.out (Own.nilS _ _ _) (Below.refl _ _)
    · have hn2 : n ≤ 200 := by omega
      have hlater : ∀ w', Below w.heap.size w w' → Sl w' v (bs xs) := fun w' hb => h.later hb
      go_enter Tryz.func67, Tryz.ntmps67
      go_wp2_with (first | (go_at_call 85; refine hget.mono ?_; rintro e wy ⟨rfl, hwy⟩; have hwy := hwy.symm; subst hwy) | (at_make; refine wpList_make_own _ rfl _ _ 43 rfl w.heap.size 9 i0 (.string ⟨#[]⟩) 1 Tryz.underlying43 hi hz0 hz1 _ _ _ n rfl rfl rfl (by rw [hz2]; omega) (by unfold maxLen; omega) (Nat.le_refl _) ?_))
      intro w1 hown hgrow
      have hbel : Below w.heap.size w w1 := (Below.refl _ _).grown hgrow (Nat.le_refl _) (by simp)
      have hown1 : Own w1 w.heap.size w1.heap.size 9 (.slice (some ⟨w.heap.size, 0, none⟩) 0 n) (ss []) := Own.of hown
      clear hget hgrow hown
      go_wp2
      go_loopw [8, 10, 30] (fun nx lv i wr => ∃ (k : Nat) (acc : List ByteArray) (q : Int), k ≤ n ∧ i = .int .i64 k ∧ nx = .int .i64 q ∧ 0 ≤ q ∧ q ≤ xs.length ∧ acc.length = k ∧ rd xs n p = (rd xs (n - k) q).map (fun r => (acc ++ r.1, r.2)) ∧ Own wr w.heap.size wr.heap.size 9 lv (ss acc) ∧ Below w.heap.size w wr) (fun _ _ i _ => n - (intOf i).toNat)
      case atStart => exact ⟨0, [], p, Nat.zero_le _, rfl, rfl, by omega, by omega, rfl, by simp, hown1, hbel⟩
      case round =>
        obtain ⟨k, acc, q, hk, rfl, rfl, hq0, hq1, hacc, hD0, ho, hbr⟩ := hrel
        have HD : Hid (acc.length = k ∧ rd xs n p = (rd xs (n - k) q).map (fun r => (acc ++ r.1, r.2))) := ⟨hacc, hD0⟩
        have hsz := hbr.size
        clear hD0 hacc hown1 hbel
        by_cases hlt : k < n
        · have htxt := GetT.text_impl wr v xs q (hlater wr hbr) hb hx (by omega) (by omega)
          obtain ⟨s, q2, ok2, hr2⟩ : ∃ s q2 ok2, getText xs q = (s, q2, ok2) := ⟨_, _, _, rfl⟩
          rw [hr2] at htxt
          have HT : Hid (getText xs q = (s, q2, ok2)) := hr2
          clear hr2
          obtain ⟨m, hm⟩ : ∃ m, n - k = m + 1 := ⟨n - k - 1, by omega⟩
          cases ok2 with
          | false =>
            have HG : Hid (getTexts xs at_ = ([], 0, false)) := getTexts_none HR.out hn2 (by rw [HD.out.2, hm, rd_no HT.out]; rfl)
            clear HD hm
            go_wp2_with (go_at_call 66; refine htxt.mono ?_; rintro e wy ⟨rfl, hwy⟩; have hwy := hwy.symm; subst hwy)
            go_ret3
            exact done_no HG.out (Own.nilS _ _ _) hbr
          | true =>
            have hbt := getText_bd HT.out
            have HN : Hid ((acc ++ [s]).length = k + 1 ∧ rd xs n p = (rd xs (n - (k + 1)) q2).map (fun r => ((acc ++ [s]) ++ r.1, r.2))) := by
              refine ⟨by rw [List.length_append, HD.out.1]; rfl, ?_⟩
              rw [HD.out.2, hm, rd_yes HT.out, show n - (k + 1) = m by omega, Option.map_map]
              simp [Function.comp_def]
            have c2 : (ss acc).length + 1 ≤ maxLen := by rw [ss_len, HD.out.1]; unfold maxLen; omega
            have c3 : ((ss acc).length + 1) * 16 ≤ 140737488355328 := by rw [ss_len, HD.out.1]; omega
            have c4 : ∀ o, w.heap.size ≤ (wr.alloc o).heap.size := fun o => by simp; omega
            clear HD hm
            go_wp2_with (first | (go_at_call 66; refine htxt.mono ?_; rintro e wy ⟨rfl, hwy⟩; have hwy := hwy.symm; subst hwy) | (at_builtin; go_must (refine wpl_app _ rfl (.tmp 41) (.tmp 43) 43 rfl 9 i0 (.string ⟨#[]⟩) 16 Tryz.underlying43 hi hz0 hz1 hz2 rfl w.heap.size _ (ss acc) rfl (ho.alloc _) _ rfl [.string s] (Sl.one _ _ _) (one_str _) c2 c3 (c4 _) ?_); intro v3 w3 ho3 hb3 hg3))
            have hb4 : Below w.heap.size w w3 := (hbr.alloc hsz _).trans hb3
            have ho4 : Own w3 w.heap.size w3.heap.size 9 v3 (ss (acc ++ [s])) := by rw [ss_app]; exact ho3
            go_roundw
            case rel => exact ⟨k + 1, acc ++ [s], q2, by omega, by go_num, rfl, by omega, by omega, HN.out.1, HN.out.2, ho4, hb4⟩
            case measure => simp [intOf]; omega
        · have hkn : k = n := by omega
          have HG : Hid (getTexts xs at_ = (acc, q, true)) := getTexts_some HR.out hn2 (by rw [HD.out.2, hkn, Nat.sub_self]; simp [rd])
          clear HD
          go_wp2
          go_ret3
          exact done_yes HG.out ho hbr

set_option maxRecDepth 1000000 in
set_option maxHeartbeats 2000000 in
theorem texts_spec (w : World) (v : Value) (xs : List Int) (at_ : Int) (h : Sl w v (bs xs)) (hb : Byt xs) (hx : xs.length ≤ 140737488355328) (hlo : -9223372036854775808 ≤ at_) (hhi : at_ ≤ 9223372036854775807) :
    Calls Tryz.prog 29 #[v, .int .i64 at_] w fun e w' => Done xs at_ w e w' := by
  obtain ⟨i0, hi, hz0, hz1, hz2⟩ := info_parts Strs.info9
  have hget := Gets.get_spec w v xs at_ h hb hx hlo hhi
  obtain ⟨n, p, ok, hr⟩ : ∃ n p ok, getNum xs at_ = (n, p, ok) := ⟨_, _, _, rfl⟩
  rw [hr] at hget
  have HR : Hid (getNum xs at_ = (n, p, ok)) := hr
  clear hr
  cases ok with
  | false =>
    have HG : Hid (getTexts xs at_ = ([], 0, false)) := getTexts_no HR.out (.inl rfl)
    go_enter Tryz.func29, Tryz.ntmps29
    go_wp2_with (go_at_call 48; refine hget.mono ?_; rintro e w' ⟨rfl, rfl⟩)
    go_ret3
    exact done_no HG.out (Own.emptyS _ _ (Nat.le_refl _)) ((Below.refl _ _).alloc (Nat.le_refl _) _)
  | true =>
    have hbd := getNum_bd HR.out
    obtain ⟨n, rfl⟩ := Int.eq_ofNat_of_zero_le hbd.1
    by_cases hbig : (200 : Int) < (n : Int)
    · have HG : Hid (getTexts xs at_ = ([], 0, false)) := getTexts_no HR.out (.inr hbig)
      go_enter Tryz.func29, Tryz.ntmps29
      go_wp2_with (go_at_call 48; refine hget.mono ?_; rintro e w' ⟨rfl, rfl⟩)
      go_ret3
      exact done_no HG.out (Own.emptyS _ _ (Nat.le_refl _)) ((Below.refl _ _).alloc (Nat.le_refl _) _)
    · have hn2 : n ≤ 200 := by omega
      have hlater : ∀ w', Below w.heap.size w w' → Sl w' v (bs xs) := fun w' hb => h.later hb
      go_enter Tryz.func29, Tryz.ntmps29
      go_wp2_with (go_at_call 48; refine hget.mono ?_; rintro e wy ⟨rfl, hwy⟩; have hwy := hwy.symm; subst hwy)
      have hbel : Below w.heap.size w (w.alloc (.cells #[] 9)) := (Below.refl _ _).alloc (Nat.le_refl _) _
      have hown1 := Own.emptyS w w.heap.size (Nat.le_refl _)
      clear hget
      go_loopw [8, 10, 11] (fun nx lv i wr => ∃ (k : Nat) (acc : List ByteArray) (q : Int), k ≤ n ∧ i = .int .i64 k ∧ nx = .int .i64 q ∧ 0 ≤ q ∧ q ≤ xs.length ∧ acc.length = k ∧ rd xs n p = (rd xs (n - k) q).map (fun r => (acc ++ r.1, r.2)) ∧ Own wr w.heap.size wr.heap.size 9 lv (ss acc) ∧ Below w.heap.size w wr) (fun _ _ i _ => n - (intOf i).toNat)
      case atStart => exact ⟨0, [], p, Nat.zero_le _, rfl, rfl, by omega, by omega, rfl, by simp, hown1, hbel⟩
      case round =>
        obtain ⟨k, acc, q, hk, rfl, rfl, hq0, hq1, hacc, hD0, ho, hbr⟩ := hrel
        have HD : Hid (acc.length = k ∧ rd xs n p = (rd xs (n - k) q).map (fun r => (acc ++ r.1, r.2))) := ⟨hacc, hD0⟩
        have hsz := hbr.size
        clear hD0 hacc hown1 hbel
        by_cases hlt : k < n
        · have htxt := GetT.text_spec wr v xs q (hlater wr hbr) hb hx (by omega) (by omega)
          obtain ⟨s, q2, ok2, hr2⟩ : ∃ s q2 ok2, getText xs q = (s, q2, ok2) := ⟨_, _, _, rfl⟩
          rw [hr2] at htxt
          have HT : Hid (getText xs q = (s, q2, ok2)) := hr2
          clear hr2
          obtain ⟨m, hm⟩ : ∃ m, n - k = m + 1 := ⟨n - k - 1, by omega⟩
          cases ok2 with
          | false =>
            have HG : Hid (getTexts xs at_ = ([], 0, false)) := getTexts_none HR.out hn2 (by rw [HD.out.2, hm, rd_no HT.out]; rfl)
            clear HD hm
            go_wp2_with (go_at_call 28; refine htxt.mono ?_; rintro e wy ⟨rfl, hwy⟩; have hwy := hwy.symm; subst hwy)
            go_ret3
            exact done_no HG.out (Own.emptyS _ _ hsz) (hbr.alloc hsz _)
          | true =>
            have hbt := getText_bd HT.out
            have HN : Hid ((acc ++ [s]).length = k + 1 ∧ rd xs n p = (rd xs (n - (k + 1)) q2).map (fun r => ((acc ++ [s]) ++ r.1, r.2))) := by
              refine ⟨by rw [List.length_append, HD.out.1]; rfl, ?_⟩
              rw [HD.out.2, hm, rd_yes HT.out, show n - (k + 1) = m by omega, Option.map_map]
              simp [Function.comp_def]
            have c2 : (ss acc).length + 1 ≤ maxLen := by rw [ss_len, HD.out.1]; unfold maxLen; omega
            have c3 : ((ss acc).length + 1) * 16 ≤ 140737488355328 := by rw [ss_len, HD.out.1]; omega
            have c4 : ∀ o, w.heap.size ≤ (wr.alloc o).heap.size := fun o => by simp; omega
            clear HD hm
            go_wp2_with (first | (go_at_call 28; refine htxt.mono ?_; rintro e wy ⟨rfl, hwy⟩; have hwy := hwy.symm; subst hwy) | (at_builtin; go_must (refine wpl_app _ rfl (.tmp 45) (.tmp 47) 43 rfl 9 i0 (.string ⟨#[]⟩) 16 Tryz.underlying43 hi hz0 hz1 hz2 rfl w.heap.size _ (ss acc) rfl (ho.alloc _) _ rfl [.string s] (Sl.one _ _ _) (one_str _) c2 c3 (c4 _) ?_); intro v3 w3 ho3 hb3 hg3))
            have hb4 : Below w.heap.size w w3 := (hbr.alloc hsz _).trans hb3
            have ho4 : Own w3 w.heap.size w3.heap.size 9 v3 (ss (acc ++ [s])) := by rw [ss_app]; exact ho3
            go_roundw
            case rel => exact ⟨k + 1, acc ++ [s], q2, by omega, by go_num, rfl, by omega, by omega, HN.out.1, HN.out.2, ho4, hb4⟩
            case measure => simp [intOf]; omega
        · have hkn : k = n := by omega
          have HG : Hid (getTexts xs at_ = (acc, q, true)) := getTexts_some HR.out hn2 (by rw [HD.out.2, hkn, Nat.sub_self]; simp [rd])
          clear HD
          go_wp2
          go_ret3
          exact done_yes HG.out ho hbr

end Go.Proofs.YtepcpnnnhdbjgamGreatDoor.GetTs
