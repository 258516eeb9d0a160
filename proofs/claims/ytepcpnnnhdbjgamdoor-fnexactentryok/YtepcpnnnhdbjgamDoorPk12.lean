/- Texts in one: Open5, EntX. -/
import Derived.Test.YtepcpnnnhdbjgamDoorPk11
import Derived.Test.YtepcpnnnhdbjgamDoorPk7
import Derived.Test.YtepcpnnnhdbjgamDoorProg
import Derived.Test.YtepcpnnnhdbjgamDoorPk10
import Derived.ChangeSame
/- What came in, read as versions, needs and entries. -/
namespace Go.Proofs.YtepcpnnnhdbjgamDoor.Open
open Go.RowKit Go.ChangeShapes Go.WideShapes Go.ChangeAt Go.Deep Go.Joins Go.Proofs.YtepcpnnnhdbjgamDoor.Mem Go.Proofs.YtepcpnnnhdbjgamDoor.Ent
set_option linter.unusedVariables false
set_option linter.unusedSimpArgs false

/-- a need whose numbers and texts are such as Go can hold -/
def Okn (n : Nd) : Prop := ((Lit.int .i64 n.a).wf = true ∧ (Lit.int .i64 n.b).wf = true ∧ (Lit.int .i64 n.c).wf = true) ∧ n.path.size ≤ maxLen ∧ n.pre.size ≤ maxLen

section
variable {H : Type} {enc : TypeId × Value → H} {w : World} {base : Nat} {spare : Nat → Bool} {held : Bool}

set_option maxRecDepth 1000000 in
theorem cells_ver : Tryd.prog.cellsOf 23 = 4 := by kernel_rfl

set_option maxRecDepth 1000000 in
theorem read_ver {fuel : Nat} {cs : List Value} {y : DataW H × List MemPlace} (h : DataW.trod enc Tryd.prog w base spare held fuel 23 cs = some y) :
    ∃ (a b c : Int) (p : ByteArray), cs = [.int .i64 a, .int .i64 b, .int .i64 c, .string p] ∧ (Lit.int .i64 a).wf = true ∧ (Lit.int .i64 b).wf = true ∧ (Lit.int .i64 c).wf = true ∧ p.size ≤ maxLen := by
  obtain ⟨y0, y1, y2, y3, n, _, hl, h0, h1, h2, h3⟩ := trod_struct4 Tryd.underlying23 h
  rw [cells_ver] at hl
  match cs, hl with
  | [c0, c1, c2, c3], _ =>
    have k3 : Tryd.prog.cellsOf 3 = 1 := by kernel_rfl
    have k9 : Tryd.prog.cellsOf 9 = 1 := by kernel_rfl
    simp only [k3, k9, List.drop_zero, List.drop_succ_cons, List.take_succ_cons, List.take_zero] at h0 h1 h2 h3
    obtain ⟨a, e0, _, wa⟩ := DataW.trod_int Tryd.underlying3 h0
    obtain ⟨b, e1, _, wb⟩ := DataW.trod_int Tryd.underlying3 h1
    obtain ⟨c, e2, _, wc⟩ := DataW.trod_int Tryd.underlying3 h2
    obtain ⟨p, e3, _, wp⟩ := DataW.trod_string Tryd.underlying9 h3
    simp only [List.cons.injEq, and_true] at e0 e1 e2 e3
    subst e0 e1 e2 e3
    exact ⟨a, b, c, p, rfl, wa, wb, wc, wp⟩

set_option maxRecDepth 1000000 in
theorem cells_need : Tryd.prog.cellsOf 55 = 5 := by kernel_rfl

set_option maxRecDepth 1000000 in
theorem read_need {fuel : Nat} {cs : List Value} {y : DataW H × List MemPlace} (h : DataW.trod enc Tryd.prog w base spare held fuel 55 cs = some y) :
    ∃ n : Nd, cs = n.cs ∧ Okn n := by
  obtain ⟨y0, y1, n, _, hl, h0, h1⟩ := trod_struct2 Tryd.underlying55 h
  rw [cells_need] at hl
  match cs, hl with
  | [c0, c1, c2, c3, c4], _ =>
    have k9 : Tryd.prog.cellsOf 9 = 1 := by kernel_rfl
    simp only [k9, cells_ver, List.drop_zero, List.drop_succ_cons, List.take_succ_cons, List.take_zero] at h0 h1
    obtain ⟨p, e0, _, wp⟩ := DataW.trod_string Tryd.underlying9 h0
    obtain ⟨a, b, c, q, e1, wa, wb, wc, wq⟩ := read_ver h1
    simp only [List.cons.injEq, and_true] at e0 e1
    obtain ⟨rfl, rfl, rfl, rfl⟩ := e1
    subst e0
    exact ⟨⟨p, a, b, c, q⟩, rfl, ⟨wa, wb, wc⟩, wp, wq⟩

theorem flat_nds : ∀ l : List Nd, (l.map Nd.cs).flatten = nds l := by
  intro l
  induction l with
  | nil => rfl
  | cons n r ih => rw [List.map_cons, List.flatten_cons, ih]; rfl
theorem rows_nds : ∀ R : List (List Value), (∀ r ∈ R, ∃ n : Nd, r = n.cs ∧ Okn n) → ∃ l : List Nd, R = l.map Nd.cs ∧ ∀ n ∈ l, Okn n := by
  intro R
  induction R with
  | nil => intro _; exact ⟨[], rfl, fun n hn => (by cases hn)⟩
  | cons r R ih =>
    intro h
    obtain ⟨n, rfl, hn⟩ := h r (by simp)
    obtain ⟨l, rfl, hl⟩ := ih (fun x hx => h x (by simp [hx]))
    exact ⟨n :: l, rfl, fun x hx => by rcases List.mem_cons.1 hx with rfl | hx; exact hn; exact hl x hx⟩

set_option maxRecDepth 1000000 in
theorem read_needs {fuel : Nat} {cs : List Value} {y : DataW H × List MemPlace} (h : DataW.trod enc Tryd.prog w base spare held fuel 24 cs = some y) :
    ∃ (ao : Option Addr) (m cap : Nat) (l : List Nd), cs = [.slice ao m cap] ∧ l.length = m ∧ l.length ≤ maxLen ∧ (∀ n ∈ l, Okn n) ∧ Sd w (.slice ao m cap) l := by
  obtain ⟨ao, m, cap, R, rfl, hm, hR, hr, hs⟩ := rows Tryd.underlying24 cells_need (by omega) h
  obtain ⟨l, rfl, hl⟩ := rows_nds R (fun r hr' => by
    obtain ⟨_, k, y, hy⟩ := hr r hr'
    exact read_need hy)
  rw [flat_nds] at hs
  rw [List.length_map] at hR
  subst hR
  exact ⟨ao, l.length, cap, l, rfl, rfl, hm, hl, hs⟩

set_option maxRecDepth 1000000 in
theorem cells_entry : Tryd.prog.cellsOf 26 = 6 := by kernel_rfl

set_option maxRecDepth 1000000 in
theorem read_entry {fuel : Nat} {cs : List Value} {y : DataW H × List MemPlace} (h : DataW.trod enc Tryd.prog w base spare held fuel 26 cs = some y) :
    ∃ (n : Nd) (ao : Option Addr) (m cap : Nat) (l : List Nd), cs = [.string n.path, .int .i64 n.a, .int .i64 n.b, .int .i64 n.c, .string n.pre, .slice ao m cap] ∧ Okn n ∧ l.length = m ∧ l.length ≤ maxLen ∧ (∀ n ∈ l, Okn n) ∧ Sd w (.slice ao m cap) l := by
  obtain ⟨y0, y1, y2, n, _, hl, h0, h1, h2⟩ := trod_struct3 Tryd.underlying26 h
  rw [cells_entry] at hl
  match cs, hl with
  | [c0, c1, c2, c3, c4, c5], _ =>
    have k9 : Tryd.prog.cellsOf 9 = 1 := by kernel_rfl
    have ks : Tryd.prog.cellsOf 24 = 1 := by kernel_rfl
    simp only [k9, ks, cells_ver, List.drop_zero, List.drop_succ_cons, List.take_succ_cons, List.take_zero] at h0 h1 h2
    obtain ⟨p, e0, _, wp⟩ := DataW.trod_string Tryd.underlying9 h0
    obtain ⟨a, b, c, q, e1, wa, wb, wc, wq⟩ := read_ver h1
    obtain ⟨ao, m, cap, l, e2, hm, hm2, hl2, hs⟩ := read_needs h2
    simp only [List.cons.injEq, and_true] at e0 e1 e2
    obtain ⟨rfl, rfl, rfl, rfl⟩ := e1
    subst e0 e2
    exact ⟨⟨p, a, b, c, q⟩, ao, m, cap, l, rfl, ⟨⟨wa, wb, wc⟩, wp, wq⟩, hm, hm2, hl2, hs⟩

end

end Go.Proofs.YtepcpnnnhdbjgamDoor.Open

/- Chapter 5: three exact laws, over contracts of the landed functions. -/
namespace Go.Proofs.YtepcpnnnhdbjgamDoor.Ent
open Go.RowKit Go.Proofs.YtepcpnnnhdbjgamDoor.Mem Go.Proofs.YtepcpnnnhdbjgamDoor.Laws Go.Proofs.YtepcpnnnhdbjgamDoor.Bytes Go.Proofs.YtepcpnnnhdbjgamDoor.Sha Go.Proofs.YtepcpnnnhdbjgamDoor.Ver Go.Proofs.YtepcpnnnhdbjgamDoor.Mod
set_option linter.unusedVariables false
set_option linter.unusedSimpArgs false

theorem sizeLN (n : Nd) : (Tryd.prog.info? 55).map (·.size) = some (nc n).size := by
  show _ = some 5
  kernel_rfl

theorem sizeLE (n : Nd) (v : Value) : (Tryd.prog.info? 26).map (·.size) = some (ec n v).size := by
  show _ = some 6
  kernel_rfl

set_option maxRecDepth 1000000 in
set_option maxHeartbeats 4000000 in
theorem exact_entryok (w : World) (n : Nd) (v : Value) (l : List Nd) (hn : Open.Okn n) (h : Sd w v l) (ho : ∀ n ∈ l, Open.Okn n) (hm : l.length ≤ maxLen)
    (iF : ∀ W v', Below w.heap.size w W → Sd W v' l → n.path.size ≤ 1048576 → n.pre.size ≤ 1048576 → l.length ≤ 1048576 → (∀ n ∈ l, n.path.size ≤ 1048576 ∧ n.pre.size ≤ 1048576) → Calls Tryd.prog 8 #[.agg #[.string n.path, .int .i64 n.a, .int .i64 n.b, .int .i64 n.c, .string n.pre, v']] W fun e w' => e = .returned (.bool (entry5 n l)) ∧ Below W.heap.size W w') :
    Calls Tryd.prog 3 #[.agg #[.string n.path, .int .i64 n.a, .int .i64 n.b, .int .i64 n.c, .string n.pre, v]] w fun e w' => e = .returned (.bool true) ∧ Below w.heap.size w w' := by
  obtain ⟨_, hn1, hn2⟩ := hn
  unfold maxLen at hm hn1 hn2
  have HB : Hid (Below w.heap.size w (w.alloc (.cells #[.string n.path, .int .i64 n.a, .int .i64 n.b, .int .i64 n.c, .string n.pre, v] 26))) := (Below.refl _ _).alloc (Nat.le_refl _) _
  have HR : Hid ((w.alloc (.cells #[.string n.path, .int .i64 n.a, .int .i64 n.b, .int .i64 n.c, .string n.pre, v] 26)).heap[w.heap.size]? = some (.cells (ec n v) 26 (0, 0))) := heap_alloc_new w _
  have q0 := sz_entry (w.alloc (.cells #[.string n.path, .int .i64 n.a, .int .i64 n.b, .int .i64 n.c, .string n.pre, v] 26)) n v l 1048576 (h.later HB.out) (by omega) (by omega) (fun n hn => by have := (ho n hn).2; unfold maxLen at this; omega) (by omega) (by omega)
  have q1 : ∀ W, Below w.heap.size w W → l.length ≤ 1048576 → _ := fun W hW hl => to_entry W n v l (h.later hW) (by omega)
  have q2 : ∀ W v', Sd W v' l → n.path.size ≤ 1048576 → n.pre.size ≤ 1048576 → l.length ≤ 1048576 → (∀ n ∈ l, n.path.size ≤ 1048576 ∧ n.pre.size ≤ 1048576) → _ := fun W v' hv h1 h2 hl hz => entryok_spec W n v' l hv (by omega) (by omega) (by omega) (fun n hn => by have := hz n hn; omega)
  have q3 : ∀ W v1 v2, Sd W v1 l → Sd W v2 l → l.length ≤ 1048576 → _ := fun W v1 v2 h1 h2 hl => eq_entry W n v1 v2 l h1 h2 (by omega)
  obtain ⟨x, hx⟩ : ∃ x, entry5 n l = x := ⟨_, rfl⟩
  simp only [hx] at q2 iF
  clear hx ho h
  go_enter Tryd.func3, Tryd.ntmps3
  go_wp2_with fail
  refine q0.mono ?_
  rintro e W1 ⟨⟨r, rfl, hr, hrr⟩, b1⟩
  have R1 := rowKeep HR.out b1
  have B1 : Below w.heap.size w W1 := HB.out.trans (b1.mono HB.out.size)
  clear q0 b1 HR HB
  rcases hrr with hr0 | ⟨hr0, h1, h2, hl, hall⟩
  · clear q1 q2 q3 iF R1
    go_wp2_with fail
    go_ret
    exact ⟨rfl, B1⟩
  have hr1 : ¬ r < 0 := by omega
  have HA : Hid (∀ n ∈ l, n.path.size ≤ 1048576 ∧ n.pre.size ≤ 1048576) := hall
  clear hall
  go_wp2_with (refine wpList_load_row rfl 26 _ rfl w.heap.size rfl 26 (ec n v) (0, 0) _ R1 Tryd.underlying26 rfl (sizeLE n v) ?_)
  refine (q1 _ B1 hl).mono ?_
  rintro e W2 ⟨v2, rfl, d2, b2⟩
  have R2 := rowKeep R1 b2
  have B2 : Below w.heap.size w W2 := B1.trans (b2.mono B1.size)
  clear B1 b2 R1
  go_wp2_with (refine wpList_load_row rfl 26 _ rfl w.heap.size rfl 26 (ec n v) (0, 0) _ R2 Tryd.underlying26 rfl (sizeLE n v) ?_)
  refine (q2 _ v2 d2.sd h1 h2 hl HA.out).mono ?_
  rintro e W3 ⟨rfl, b3⟩
  have R3 := rowKeep R2 b3
  have B3 : Below w.heap.size w W3 := B2.trans (b3.mono B2.size)
  clear B2 b3 d2 R2
  go_wp2_with (refine wpList_load_row rfl 26 _ rfl w.heap.size rfl 26 (ec n v) (0, 0) _ R3 Tryd.underlying26 rfl (sizeLE n v) ?_)
  refine (q1 _ B3 hl).mono ?_
  rintro e W4 ⟨v4, rfl, d4, b4⟩
  have R4 := rowKeep R3 b4
  have B4 : Below w.heap.size w W4 := B3.trans (b4.mono B3.size)
  clear B3 b4 R3
  -- HERE
  obtain ⟨_, ao4, cap4, rfl, _⟩ := d4.sd
  have hz4 : w.heap.size < W4.heap.size := (Array.getElem?_eq_some_iff.1 R4).1
  have B5 : Below w.heap.size w (W4.alloc (.cells #[.string n.path, .int .i64 n.a, .int .i64 n.b, .int .i64 n.c, .string n.pre, .slice ao4 l.length cap4] 32)) := B4.alloc B4.size _
  have HR5 : Hid ((W4.alloc (.cells #[.string n.path, .int .i64 n.a, .int .i64 n.b, .int .i64 n.c, .string n.pre, .slice ao4 l.length cap4] 32)).heap[W4.heap.size]? = some (.cells (ec n (.slice ao4 l.length cap4)) 32 (0, 0))) := heap_alloc_new W4 _
  have HR4 : Hid ((W4.alloc (.cells #[.string n.path, .int .i64 n.a, .int .i64 n.b, .int .i64 n.c, .string n.pre, .slice ao4 l.length cap4] 32)).heap[w.heap.size]? = some (.cells (ec n v) 26 (0, 0))) := by
    show _ = _
    rw [heap_alloc_old _ _ hz4]
    exact R4
  have HS5 : Hid (Sd (W4.alloc (.cells #[.string n.path, .int .i64 n.a, .int .i64 n.b, .int .i64 n.c, .string n.pre, .slice ao4 l.length cap4] 32)) (.slice ao4 l.length cap4) l) := d4.sd.later ((Below.refl _ _).alloc (Nat.le_refl _) _)
  have q6 := iF _ (.slice ao4 l.length cap4) B5 HS5.out h1 h2 hl HA.out
  clear iF B4 d4 R4
  go_wp2_with fail
  refine q6.mono ?_
  rintro e W6 ⟨rfl, b6⟩
  have R6 := rowKeep HR4.out b6
  have R7 := rowKeep HR5.out b6
  have B6 : Below w.heap.size w W6 := B5.trans (b6.mono B5.size)
  have B6' : Below w.heap.size w W6.drew := Below.drew B6
  obtain ⟨v4, hv4⟩ : ∃ v4, v4 = Value.slice ao4 l.length cap4 := ⟨_, rfl⟩
  have HS6 : Hid (Sd W6.drew v4 l) := by rw [hv4]; exact HS5.out.later (Below.drew b6)
  rw [← hv4] at R7
  rw [← hv4]
  clear q6 HR4 HR5 HS5 B5 b6 hv4
  cases x
  · go_wp2_with fail
    refine wp_region_held_drew (S := fun w' => w'.cell? ⟨w.heap.size, 0, none⟩ = some (.string n.path) ∧ w'.cell? ⟨w.heap.size, 1, none⟩ = some (.int .i64 n.a) ∧ w'.cell? ⟨w.heap.size, 2, none⟩ = some (.int .i64 n.b) ∧ w'.cell? ⟨w.heap.size, 3, none⟩ = some (.int .i64 n.c) ∧ w'.cell? ⟨w.heap.size, 4, none⟩ = some (.string n.pre) ∧ w'.cell? ⟨w.heap.size, 5, none⟩ = some (v) ∧ w'.cell? ⟨W4.heap.size, 0, none⟩ = some (.string n.path) ∧ w'.cell? ⟨W4.heap.size, 1, none⟩ = some (.int .i64 n.a) ∧ w'.cell? ⟨W4.heap.size, 2, none⟩ = some (.int .i64 n.b) ∧ w'.cell? ⟨W4.heap.size, 3, none⟩ = some (.int .i64 n.c) ∧ w'.cell? ⟨W4.heap.size, 4, none⟩ = some (.string n.pre) ∧ w'.cell? ⟨W4.heap.size, 5, none⟩ = some (v4)) (by kernel_rfl) ⟨row_cells R6 0, row_cells R6 1, row_cells R6 2, row_cells R6 3, row_cells R6 4, row_cells R6 5, row_cells R7 0, row_cells R7 1, row_cells R7 2, row_cells R7 3, row_cells R7 4, row_cells R7 5⟩ (fun hHeld => ?_)
    (refine wpAnyH_take (i := 0) (v := ?v0x1) rfl (by kernel_rfl) (by kernel_rfl) (by kernel_rfl) (fun _ _ _ h => h) (Or.inl ⟨by rfl, ?hy0x1⟩) (by assumption) ?rest0x1; case hy0x1 => (intro w hSw; (try dsimp only at hSw); go_split_ands; go_simp; (try with_reducible rfl)))
    try simp only [Act.put, List.setIfInBounds_toArray, List.set_cons_zero, List.set_cons_succ, List.getElem_toArray, List.getElem_cons_zero, List.getElem_cons_succ]
    (refine wpAnyH_take (i := 1) (v := ?v1x2) rfl (by kernel_rfl) (by kernel_rfl) (by kernel_rfl) (fun _ _ _ h => h) (Or.inl ⟨by rfl, ?hy1x2⟩) (by assumption) ?rest1x2; case hy1x2 => (intro w hSw; (try dsimp only at hSw); go_split_ands; go_simp; (try with_reducible rfl)))
    try simp only [Act.put, List.setIfInBounds_toArray, List.set_cons_zero, List.set_cons_succ, List.getElem_toArray, List.getElem_cons_zero, List.getElem_cons_succ]
    refine wpAnyH_ready (rs := [2]) (by kernel_rfl) (by simp) ?_
    refine AllReadyH.cons rfl (fun K hK => ?_) AllReadyH.nil
    go_simp
    refine (q1 _ B6' hl).mono ?_
    rintro e W7 ⟨v7, rfl, d7, b7⟩
    refine hK.out _ _ ?_ (fun hHeld => ?_)
    · obtain ⟨s0, s1, s2, s3, s4, s5, s6, s7, s8, s9, s10, s11⟩ := hHeld; exact ⟨Ver.keepCell s0 b7, Ver.keepCell s1 b7, Ver.keepCell s2 b7, Ver.keepCell s3 b7, Ver.keepCell s4 b7, Ver.keepCell s5 b7, Ver.keepCell s6 b7, Ver.keepCell s7 b7, Ver.keepCell s8 b7, Ver.keepCell s9 b7, Ver.keepCell s10 b7, Ver.keepCell s11 b7⟩
    clear hK K
    try simp only [Act.put, List.setIfInBounds_toArray, List.set_cons_zero, List.set_cons_succ, List.getElem_toArray, List.getElem_cons_zero, List.getElem_cons_succ]
    have s7 : Sd W7 v4 l := HS6.out.later b7
    refine wpAnyH_ready (rs := [3]) (by kernel_rfl) (by simp) ?_
    refine AllReadyH.cons rfl (fun K hK => ?_) AllReadyH.nil
    go_simp
    refine (q3 _ v4 v7 s7 d7.sd hl).mono ?_
    rintro e W8 ⟨rfl, b8⟩
    refine hK.out _ _ ?_ (fun hHeld => ?_)
    · obtain ⟨s0, s1, s2, s3, s4, s5, s6, s7, s8, s9, s10, s11⟩ := hHeld; exact ⟨Ver.keepCell s0 b8, Ver.keepCell s1 b8, Ver.keepCell s2 b8, Ver.keepCell s3 b8, Ver.keepCell s4 b8, Ver.keepCell s5 b8, Ver.keepCell s6 b8, Ver.keepCell s7 b8, Ver.keepCell s8 b8, Ver.keepCell s9 b8, Ver.keepCell s10 b8, Ver.keepCell s11 b8⟩
    clear hK K
    try simp only [Act.put, List.setIfInBounds_toArray, List.set_cons_zero, List.set_cons_succ, List.getElem_toArray, List.getElem_cons_zero, List.getElem_cons_succ]
    (refine wpAnyH_take (i := 4) (v := ?v4x3) rfl (by kernel_rfl) (by kernel_rfl) (by kernel_rfl) (fun _ _ _ h => h) (Or.inl ⟨by rfl, ?hy4x3⟩) (by assumption) ?rest4x3; case hy4x3 => (intro w hSw; (try dsimp only at hSw); go_split_ands; go_simp; (try with_reducible rfl)))
    try simp only [Act.put, List.setIfInBounds_toArray, List.set_cons_zero, List.set_cons_succ, List.getElem_toArray, List.getElem_cons_zero, List.getElem_cons_succ]
    refine wpAnyH_done (by kernel_rfl) ?_ _
    have B7 : Below w.heap.size w W7 := B6'.trans (b7.mono B6'.size)
    have B8 : Below w.heap.size w W8 := B7.trans (b8.mono B7.size)
    clear hHeld
    go_wp2_with fail
    go_ret
    exact ⟨rfl, B8⟩
  · go_wp2_with fail
    refine wp_region_held_drew (S := fun w' => w'.cell? ⟨w.heap.size, 0, none⟩ = some (.string n.path) ∧ w'.cell? ⟨w.heap.size, 1, none⟩ = some (.int .i64 n.a) ∧ w'.cell? ⟨w.heap.size, 2, none⟩ = some (.int .i64 n.b) ∧ w'.cell? ⟨w.heap.size, 3, none⟩ = some (.int .i64 n.c) ∧ w'.cell? ⟨w.heap.size, 4, none⟩ = some (.string n.pre) ∧ w'.cell? ⟨w.heap.size, 5, none⟩ = some (v) ∧ w'.cell? ⟨W4.heap.size, 0, none⟩ = some (.string n.path) ∧ w'.cell? ⟨W4.heap.size, 1, none⟩ = some (.int .i64 n.a) ∧ w'.cell? ⟨W4.heap.size, 2, none⟩ = some (.int .i64 n.b) ∧ w'.cell? ⟨W4.heap.size, 3, none⟩ = some (.int .i64 n.c) ∧ w'.cell? ⟨W4.heap.size, 4, none⟩ = some (.string n.pre) ∧ w'.cell? ⟨W4.heap.size, 5, none⟩ = some (v4)) (by kernel_rfl) ⟨row_cells R6 0, row_cells R6 1, row_cells R6 2, row_cells R6 3, row_cells R6 4, row_cells R6 5, row_cells R7 0, row_cells R7 1, row_cells R7 2, row_cells R7 3, row_cells R7 4, row_cells R7 5⟩ (fun hHeld => ?_)
    (refine wpAnyH_take (i := 0) (v := ?v0x4) rfl (by kernel_rfl) (by kernel_rfl) (by kernel_rfl) (fun _ _ _ h => h) (Or.inl ⟨by rfl, ?hy0x4⟩) (by assumption) ?rest0x4; case hy0x4 => (intro w hSw; (try dsimp only at hSw); go_split_ands; go_simp; (try with_reducible rfl)))
    try simp only [Act.put, List.setIfInBounds_toArray, List.set_cons_zero, List.set_cons_succ, List.getElem_toArray, List.getElem_cons_zero, List.getElem_cons_succ]
    (refine wpAnyH_take (i := 1) (v := ?v1x5) rfl (by kernel_rfl) (by kernel_rfl) (by kernel_rfl) (fun _ _ _ h => h) (Or.inl ⟨by rfl, ?hy1x5⟩) (by assumption) ?rest1x5; case hy1x5 => (intro w hSw; (try dsimp only at hSw); go_split_ands; go_simp; (try with_reducible rfl)))
    try simp only [Act.put, List.setIfInBounds_toArray, List.set_cons_zero, List.set_cons_succ, List.getElem_toArray, List.getElem_cons_zero, List.getElem_cons_succ]
    refine wpAnyH_ready (rs := [2]) (by kernel_rfl) (by simp) ?_
    refine AllReadyH.cons rfl (fun K hK => ?_) AllReadyH.nil
    go_simp
    refine (q1 _ B6' hl).mono ?_
    rintro e W7 ⟨v7, rfl, d7, b7⟩
    refine hK.out _ _ ?_ (fun hHeld => ?_)
    · obtain ⟨s0, s1, s2, s3, s4, s5, s6, s7, s8, s9, s10, s11⟩ := hHeld; exact ⟨Ver.keepCell s0 b7, Ver.keepCell s1 b7, Ver.keepCell s2 b7, Ver.keepCell s3 b7, Ver.keepCell s4 b7, Ver.keepCell s5 b7, Ver.keepCell s6 b7, Ver.keepCell s7 b7, Ver.keepCell s8 b7, Ver.keepCell s9 b7, Ver.keepCell s10 b7, Ver.keepCell s11 b7⟩
    clear hK K
    try simp only [Act.put, List.setIfInBounds_toArray, List.set_cons_zero, List.set_cons_succ, List.getElem_toArray, List.getElem_cons_zero, List.getElem_cons_succ]
    have s7 : Sd W7 v4 l := HS6.out.later b7
    refine wpAnyH_ready (rs := [3]) (by kernel_rfl) (by simp) ?_
    refine AllReadyH.cons rfl (fun K hK => ?_) AllReadyH.nil
    go_simp
    refine (q3 _ v4 v7 s7 d7.sd hl).mono ?_
    rintro e W8 ⟨rfl, b8⟩
    refine hK.out _ _ ?_ (fun hHeld => ?_)
    · obtain ⟨s0, s1, s2, s3, s4, s5, s6, s7, s8, s9, s10, s11⟩ := hHeld; exact ⟨Ver.keepCell s0 b8, Ver.keepCell s1 b8, Ver.keepCell s2 b8, Ver.keepCell s3 b8, Ver.keepCell s4 b8, Ver.keepCell s5 b8, Ver.keepCell s6 b8, Ver.keepCell s7 b8, Ver.keepCell s8 b8, Ver.keepCell s9 b8, Ver.keepCell s10 b8, Ver.keepCell s11 b8⟩
    clear hK K
    try simp only [Act.put, List.setIfInBounds_toArray, List.set_cons_zero, List.set_cons_succ, List.getElem_toArray, List.getElem_cons_zero, List.getElem_cons_succ]
    (refine wpAnyH_take (i := 4) (v := ?v4x6) rfl (by kernel_rfl) (by kernel_rfl) (by kernel_rfl) (fun _ _ _ h => h) (Or.inl ⟨by rfl, ?hy4x6⟩) (by assumption) ?rest4x6; case hy4x6 => (intro w hSw; (try dsimp only at hSw); go_split_ands; go_simp; (try with_reducible rfl)))
    try simp only [Act.put, List.setIfInBounds_toArray, List.set_cons_zero, List.set_cons_succ, List.getElem_toArray, List.getElem_cons_zero, List.getElem_cons_succ]
    refine wpAnyH_done (by kernel_rfl) ?_ _
    have B7 : Below w.heap.size w W7 := B6'.trans (b7.mono B6'.size)
    have B8 : Below w.heap.size w W8 := B7.trans (b8.mono B7.size)
    clear hHeld
    go_wp2_with fail
    go_ret
    exact ⟨rfl, B8⟩

end Go.Proofs.YtepcpnnnhdbjgamDoor.Ent
