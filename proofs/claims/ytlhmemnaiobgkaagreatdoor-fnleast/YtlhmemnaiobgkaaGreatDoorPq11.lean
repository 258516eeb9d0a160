/- Texts in one: Ver9, VerL, Ent3, Ent4, Ent5. -/
import Derived.Test.YtlhmemnaiobgkaaGreatDoorPq6
import Derived.Test.YtlhmemnaiobgkaaGreatDoorPq10
import Derived.Test.YtlhmemnaiobgkaaGreatDoorPq7
import Derived.Laws.ResultCell
/- Chapter 3, the specification's side: a version that is read of a text. -/
namespace Go.Proofs.YtlhmemnaiobgkaaGreatDoor.Ver
set_option linter.unusedVariables false
set_option linter.unusedSimpArgs false
open Go.RowKit Go.Proofs.YtlhmemnaiobgkaaGreatDoor.Mem Go.Proofs.YtlhmemnaiobgkaaGreatDoor.Laws Go.Proofs.YtlhmemnaiobgkaaGreatDoor.Bytes Go.Proofs.YtlhmemnaiobgkaaGreatDoor.Sha

theorem results_row_tmp {P : Program} {fn : Func} {p u : Tmp} {ty : TypeId} (h : fn.results = #[.cell p ty, .tmp u]) (tmps : Array Value) (w : World) (g : Nat) (t : TypeId) (cs : Array Value) (fr : Nat × Nat) (d : TypeDesc)
    (hp : tmps.getD p undef = .pointer (some ⟨g, 0, none⟩)) (hg : w.heap[g]? = some (.cells cs t fr))
    (hu : P.underlying ty = some d) (hd : (match d with | .struct _ | .array _ _ => true | _ => false) = true) (hi : (P.info? ty).map (·.size) = some cs.size) :
    (results fn tmps).run P w = .ok (.tuple #[.agg cs, tmps.getD u undef]) w := by
  have hp' : tmps[p]?.getD undef = .pointer (some ⟨g, 0, none⟩) := by simpa using hp
  simp [results, h, hp', asAddr, run_loadVar_row w g t ty cs fr d hg hu hd hi]

theorem Vr.frozen {w : World} {g : Nat} {a b c : Int} {p : ByteArray} (h : Vr w g a b c p) (i : Nat) : w.frozen? ⟨g, i, none⟩ = false := by
  have h' : w.heap[g]? = some (.cells (vc a b c p) 32 (0, 0)) := h
  simp [World.frozen?, h']
/-- three numbers stored one by one -/
def put3 (w : World) (g : Nat) (a b c : Int) : World := ((w.setCell ⟨g, 0, none⟩ (.int .i64 a)).setCell ⟨g, 1, none⟩ (.int .i64 b)).setCell ⟨g, 2, none⟩ (.int .i64 c)
theorem Vr.cellSet {w : World} {g : Nat} {cs : Array Value} (h : w.heap[g]? = some (.cells cs 32 (0, 0))) (i : Nat) (v : Value) : (w.setCell ⟨g, i, none⟩ v).heap[g]? = some (.cells (cs.setIfInBounds i v) 32 (0, 0)) := by
  simp [World.setCell, Array.getElem?_modify, h]
theorem put3_row {w : World} {g : Nat} {a b c : Int} {p : ByteArray} (h : Vr w g a b c p) (a' b' c' : Int) : Vr (put3 w g a' b' c') g a' b' c' p := Vr.cellSet (Vr.cellSet (Vr.cellSet h 0 _) 1 _) 2 _
theorem put3_other {w : World} {g g' : Nat} {a b c : Int} {p : ByteArray} (h : Vr w g a b c p) (hg : g ≠ g') (a' b' c' : Int) : Vr (put3 w g' a' b' c') g a b c p := by
  unfold Vr put3
  rw [Below.heap_setCell _ _ _ _ (by exact hg), Below.heap_setCell _ _ _ _ (by exact hg), Below.heap_setCell _ _ _ _ (by exact hg)]
  exact h
theorem put3_below {B : Nat} {w0 w : World} {g : Nat} (hb : Below B w0 w) (hg : B ≤ g) (a b c : Int) : Below B w0 (put3 w g a b c) :=
  ((hb.setCell (p := ⟨g, 0, none⟩) hg _).setCell (p := ⟨g, 1, none⟩) hg _).setCell (p := ⟨g, 2, none⟩) hg _

theorem thirdV (w : World) (A B C : Obj) : (((w.alloc A).alloc B).alloc C).heap[w.heap.size + 1 + 1]? = some C := by
  have h := heap_alloc_new ((w.alloc A).alloc B) C
  have e : ((w.alloc A).alloc B).heap.size = w.heap.size + 1 + 1 := by
    show ((w.heap.push A).push B).size = _
    simp
  rw [e] at h
  exact h

/-- a text's numbers, and what stands behind the first sign - -/
def cut (t : ByteArray) : ByteArray × ByteArray := match (sb t).findIdx? (fun c => c == 45) with
  | some i => (t.extract 0 i, t.extract (i + 1) t.size)
  | none => (t, ⟨#[]⟩)
def parse3 (s u pr : ByteArray) : (Int × Int × Int × ByteArray) × Bool := match splitT 46 u with
  | [x, y, z] => if okV (number (sb x)) (number (sb y)) (number (sb z)) pr = true ∧ eqT (Plain.txt (verText (number (sb x)) (number (sb y)) (number (sb z)) pr)) s = true then ((number (sb x), number (sb y), number (sb z), pr), true) else ((0, 0, 0, ⟨#[]⟩), false)
  | _ => ((0, 0, 0, ⟨#[]⟩), false)
def parseV (s : ByteArray) : (Int × Int × Int × ByteArray) × Bool :=
  if (sb s).head? = some 118 then parse3 s (cut (s.extract 1 s.size)).1 (cut (s.extract 1 s.size)).2 else ((0, 0, 0, ⟨#[]⟩), false)

theorem cut_some {t : ByteArray} {i : Nat} (h1 : (sb t)[i]? = some 45) (h2 : ∀ j, j < i → (sb t)[j]? ≠ some 45) : cut t = (t.extract 0 i, t.extract (i + 1) t.size) := by
  have : (sb t).findIdx? (fun c => c == 45) = some i := by
    rw [List.findIdx?_eq_some_iff_getElem]
    obtain ⟨hi, he⟩ := List.getElem?_eq_some_iff.1 h1
    refine ⟨hi, by simp [he], fun j hj => ?_⟩
    have := h2 j hj
    rw [List.getElem?_eq_getElem (by omega)] at this
    simpa using this
  unfold cut
  rw [this]
theorem cut_none {t : ByteArray} (h2 : ∀ j, j < t.size → (sb t)[j]? ≠ some 45) : cut t = (t, ⟨#[]⟩) := by
  have : (sb t).findIdx? (fun c => c == 45) = none := by
    rw [List.findIdx?_eq_none_iff]
    intro x hx
    obtain ⟨j, hj, rfl⟩ := List.getElem_of_mem hx
    have := h2 j (by rw [sb_len] at hj; exact hj)
    rw [List.getElem?_eq_getElem hj] at this
    simpa using this
  unfold cut
  rw [this]


end Go.Proofs.YtlhmemnaiobgkaaGreatDoor.Ver

/- The laws' helpers of chapter 3: a version's size, its turning, whether two are the same. -/
namespace Go.Proofs.YtlhmemnaiobgkaaGreatDoor.Ver
open Go.RowKit Go.Proofs.YtlhmemnaiobgkaaGreatDoor.Mem Go.Proofs.YtlhmemnaiobgkaaGreatDoor.Laws Go.Proofs.YtlhmemnaiobgkaaGreatDoor.Bytes Go.Proofs.YtlhmemnaiobgkaaGreatDoor.Sha
set_option linter.unusedVariables false
set_option linter.unusedSimpArgs false

set_option maxRecDepth 1000000 in
theorem sz_any (w : World) (a b c : Int) (p : ByteArray) (n : Int) (hp : p.size ≤ 9223372036854775807) (h0 : 0 ≤ n) (h1 : n ≤ 1048576) :
    Calls Tryz.prog 85 #[ver a b c p, .int .i64 n] w fun e w' => e = .returned (.int .i64 (if n - p.size < 0 then -1 else n - p.size)) ∧ Below w.heap.size w w' := by
  have HB : Hid (Below w.heap.size w (w.alloc (.cells #[.int .i64 a, .int .i64 b, .int .i64 c, .string p] 82))) := (Below.refl _ _).alloc (Nat.le_refl _) _
  unfold ver
  by_cases h : n - (p.size : Int) < 0
  · rw [if_pos h]
    go_enter Tryz.func85, Tryz.ntmps85
    go_wp2
    go_ret
    exact ⟨rfl, HB.out⟩
  · rw [if_neg h]
    go_enter Tryz.func85, Tryz.ntmps85
    go_wp2
    go_ret
    exact ⟨rfl, HB.out⟩

theorem sizeL (a b c : Int) (p : ByteArray) : (Tryz.prog.info? 82).map (·.size) = some (vc a b c p).size := by
  show _ = some 4
  kernel_rfl
theorem rowStay {w w' : World} {g : Nat} {o : Obj} (h : w.heap[g]? = some o) (hb : Below w.heap.size w w') : w'.heap[g]? = some o := (hb.block g (Array.getElem?_eq_some_iff.1 h).1).trans h
theorem midV (w : World) (A B C : Obj) : (((w.alloc A).alloc B).alloc C).heap[w.heap.size + 1]? = some B := by
  rw [heap_alloc_old ((w.alloc A).alloc B) C (show w.heap.size + 1 < ((w.alloc A).alloc B).heap.size by show _ < ((w.heap.push A).push B).size; simp)]
  exact heap_alloc2_new w A B

set_option maxRecDepth 1000000 in
set_option maxHeartbeats 1000000 in
theorem to_ver (w : World) (a b c : Int) (p : ByteArray) :
    Calls Tryz.prog 86 #[ver a b c p] w fun e w' => e = .returned (ver a b c p) ∧ Below w.heap.size w w' := by
  unfold ver
  go_enter Tryz.func86, Tryz.ntmps86
  go_wp2
  exact bodyPost_ret (v := .agg (vc a b c p)) (results_cell_row rfl _ _ (w.heap.size + 1) 32 _ (0, 0) _ rfl (midV w _ _ _) Tryz.underlying32 rfl (sizeV a b c p)) rfl ⟨rfl, (((Below.refl _ _).alloc (Nat.le_refl _) _).alloc (by simp) _).alloc (by simp; omega) _⟩

set_option maxRecDepth 1000000 in
set_option maxHeartbeats 1000000 in
theorem eq_same (w : World) (a b c : Int) (p : ByteArray) :
    Calls Tryz.prog 87 #[ver a b c p, ver a b c p] w fun e w' => e = .returned (.bool true) ∧ Below w.heap.size w w' := by
  have HB : Hid (Below w.heap.size w ((w.alloc (.cells #[.int .i64 a, .int .i64 b, .int .i64 c, .string p] 32)).alloc (.cells #[.int .i64 a, .int .i64 b, .int .i64 c, .string p] 32))) := ((Below.refl _ _).alloc (Nat.le_refl _) _).alloc (by simp) _
  have n1 : (a != a) = false := by simp
  have n2 : (b != b) = false := by simp
  have n3 : (c != c) = false := by simp
  have n4 : (p.toList == p.toList) = true := by simp
  unfold ver
  go_enter Tryz.func87, Tryz.ntmps87
  go_wp2
  go_ret
  exact ⟨rfl, HB.out⟩

end Go.Proofs.YtlhmemnaiobgkaaGreatDoor.Ver

/- Chapter 5, the laws' helpers: a need's size, its turning, whether two are the same; lists of needs. -/
namespace Go.Proofs.YtlhmemnaiobgkaaGreatDoor.Ent
open Go.RowKit Go.Proofs.YtlhmemnaiobgkaaGreatDoor.Mem Go.Proofs.YtlhmemnaiobgkaaGreatDoor.Laws Go.Proofs.YtlhmemnaiobgkaaGreatDoor.Bytes Go.Proofs.YtlhmemnaiobgkaaGreatDoor.Sha Go.Proofs.YtlhmemnaiobgkaaGreatDoor.Ver Go.Proofs.YtlhmemnaiobgkaaGreatDoor.Mod
set_option linter.unusedVariables false
set_option linter.unusedSimpArgs false

def nc (n : Nd) : Array Value := #[.string n.path, .int .i64 n.a, .int .i64 n.b, .int .i64 n.c, .string n.pre]
theorem sizeN (n : Nd) : (Tryz.prog.info? 38).map (·.size) = some (nc n).size := by
  show _ = some 5
  kernel_rfl
theorem sizeV4 (a b c : Int) (p : ByteArray) : (Tryz.prog.info? 32).map (·.size) = some (vc a b c p).size := by
  show _ = some 4
  kernel_rfl
theorem oneN (n : Nd) : (nc n).all (·.oneCell') = true := by simp [nc, Value.oneCell']
theorem row_cells {w : World} {g : Nat} {cs : Array Value} {t : TypeId} {fr : Nat × Nat} (h : w.heap[g]? = some (.cells cs t fr)) (j : Nat) : w.cell? ⟨g, j, none⟩ = cs[j]? := by simp [World.cell?, h]

set_option maxRecDepth 1000000 in
set_option maxHeartbeats 1000000 in
theorem to_need (w : World) (n : Nd) :
    Calls Tryz.prog 59 #[.agg #[.string n.path, .int .i64 n.a, .int .i64 n.b, .int .i64 n.c, .string n.pre]] w fun e w' => e = .returned (.agg #[.string n.path, .int .i64 n.a, .int .i64 n.b, .int .i64 n.c, .string n.pre]) ∧ Below w.heap.size w w' := by
  have q : ∀ W, _ := fun W => to_ver W n.a n.b n.c n.pre
  unfold Ver.ver at q
  obtain ⟨W, hW⟩ : ∃ W, W = ((w.alloc (.cells #[.string n.path, .int .i64 n.a, .int .i64 n.b, .int .i64 n.c, .string n.pre] 87)).alloc (.cells #[.string ⟨#[]⟩, .int .i64 0, .int .i64 0, .int .i64 0, .string ⟨#[]⟩] 38)).alloc (.cells #[.string n.path, .int .i64 0, .int .i64 0, .int .i64 0, .string ⟨#[]⟩] 38) := ⟨_, rfl⟩
  have HB : Hid (Below w.heap.size w W) := by
    show Below _ _ _
    rw [hW]
    exact (((Below.refl _ _).alloc (Nat.le_refl _) _).alloc (by simp) _).alloc (by simp; omega) _
  have HR1 : Hid (W.heap[w.heap.size + 1]? = some (.cells #[.string ⟨#[]⟩, .int .i64 0, .int .i64 0, .int .i64 0, .string ⟨#[]⟩] 38 (0, 0))) := by
    show _ = _
    rw [hW]
    exact midV w _ _ _
  have HR2 : Hid (W.heap[w.heap.size + 1 + 1]? = some (.cells #[.string n.path, .int .i64 0, .int .i64 0, .int .i64 0, .string ⟨#[]⟩] 38 (0, 0))) := by
    show _ = _
    rw [hW]
    have := heap_alloc_new ((w.alloc (.cells #[.string n.path, .int .i64 n.a, .int .i64 n.b, .int .i64 n.c, .string n.pre] 87)).alloc (.cells #[.string ⟨#[]⟩, .int .i64 0, .int .i64 0, .int .i64 0, .string ⟨#[]⟩] 38)) (.cells #[.string n.path, .int .i64 0, .int .i64 0, .int .i64 0, .string ⟨#[]⟩] 38)
    simpa using this
  have q1 := q W
  rw [hW] at q1
  have HW : Hid (W = _) := hW
  clear hW q
  go_enter Tryz.func59, Tryz.ntmps59
  go_wp2_with fail
  refine q1.mono ?_
  rw [← HW.out]
  rintro e w4 ⟨rfl, b4⟩
  have r1 := rowKeep HR1.out b4
  have r2 := rowKeep HR2.out b4
  have hB : Below w.heap.size w w4 := HB.out.trans (b4.mono HB.out.size)
  clear HR1 HR2 HB HW q1 b4
  obtain ⟨W5, HW5, HR3, HR4, HB3⟩ : ∃ W5, Hid (w4.setCells (w.heap.size + 1 + 1) 1 (vc n.a n.b n.c n.pre).toList = W5) ∧ Hid (W5.heap[w.heap.size + 1 + 1]? = some (.cells (nc n) 38 (0, 0))) ∧ Hid (W5.heap[w.heap.size + 1]? = some (.cells #[.string ⟨#[]⟩, .int .i64 0, .int .i64 0, .int .i64 0, .string ⟨#[]⟩] 38 (0, 0))) ∧ Hid (Below w.heap.size w W5) :=
    ⟨_, rfl, heap_setCells _ _ 1 w4 [.string n.path, .int .i64 0, .int .i64 0, .int .i64 0, .string ⟨#[]⟩] _ r2, (heap_setCells_other _ _ (by omega) _ 1 w4).trans r1, below_setCells (g := w.heap.size + 1 + 1) (by omega) _ 1 w4 hB⟩
  have th := there_row (o := 1) (n := 4) r2 (by simp)
  clear r1 r2 hB
  go_wp2_with (first | (refine wpList_store_mid rfl 32 _ _ rfl (w.heap.size + 1 + 1) 1 (vc n.a n.b n.c n.pre) rfl rfl th (sizeV4 n.a n.b n.c n.pre) (oneV n.a n.b n.c n.pre) ?_; rw [HW5.out]) | (refine wpList_load_row rfl 38 _ rfl (w.heap.size + 1 + 1) rfl 38 (nc n) (0, 0) _ HR3.out Tryz.underlying38 rfl (sizeN n) ?_) | (refine wpList_store_row rfl 38 _ _ rfl (w.heap.size + 1) (nc n) rfl rfl 38 _ HR4.out (sizeN n) rfl (oneN n) ?_))
  exact bodyPost_ret (v := .agg (nc n)) (results_cell_row rfl _ _ (w.heap.size + 1) 38 _ (0, 0) _ rfl (setRow_heap _ _ _ _ _ (0, 0) HR4.out) Tryz.underlying38 rfl (sizeN n)) rfl ⟨rfl, below_setRow HB3.out (by omega) _⟩

set_option maxRecDepth 1000000 in
set_option maxHeartbeats 1000000 in
theorem sz_need (w : World) (n : Nd) (left : Int) (hp : n.path.size ≤ 9223372036854775807) (hq : n.pre.size ≤ 9223372036854775807) (h0 : 0 ≤ left) (h1 : left ≤ 1048576) :
    Calls Tryz.prog 57 #[.agg #[.string n.path, .int .i64 n.a, .int .i64 n.b, .int .i64 n.c, .string n.pre], .int .i64 left] w fun e w' => e = .returned (.int .i64 (if left - n.path.size - n.pre.size < 0 then -1 else left - n.path.size - n.pre.size)) ∧ Below w.heap.size w w' := by
  have HB : Hid (Below w.heap.size w (w.alloc (.cells #[.string n.path, .int .i64 n.a, .int .i64 n.b, .int .i64 n.c, .string n.pre] 87))) := (Below.refl _ _).alloc (Nat.le_refl _) _
  by_cases hb : left - (n.path.size : Int) < 0
  · have HN : Hid ((if left - n.path.size - n.pre.size < 0 then -1 else left - n.path.size - n.pre.size) = (-1 : Int)) := by show _ = _; rw [if_pos (by omega)]
    go_enter Tryz.func57, Tryz.ntmps57
    go_wp2
    go_ret
    exact ⟨by first | rfl | (rw [HN.out]; rfl), HB.out⟩
  · have q : ∀ W, _ := fun W => Ver.sz_any W n.a n.b n.c n.pre (left - (n.path.size : Int)) hq (by omega) (by omega)
    unfold Ver.ver at q
    by_cases hc : left - (n.path.size : Int) - n.pre.size < 0
    · have HN : Hid ((if left - n.path.size - n.pre.size < 0 then -1 else left - n.path.size - n.pre.size) = (-1 : Int)) := by show _ = _; rw [if_pos hc]
      simp only [if_pos hc] at q
      go_enter Tryz.func57, Tryz.ntmps57
      go_wp2_with (go_at_call 85; refine (q _).mono ?_; rintro e W1 ⟨rfl, b1⟩)
      go_ret
      exact ⟨by first | rfl | (rw [HN.out]; rfl), HB.out.trans (b1.mono HB.out.size)⟩
    · have HN : Hid ((if left - n.path.size - n.pre.size < 0 then -1 else left - n.path.size - n.pre.size) = left - n.path.size - n.pre.size) := by show _ = _; rw [if_neg hc]
      simp only [if_neg hc] at q
      go_enter Tryz.func57, Tryz.ntmps57
      go_wp2_with (go_at_call 85; refine (q _).mono ?_; rintro e W1 ⟨rfl, b1⟩)
      go_ret
      exact ⟨by first | rfl | (rw [HN.out]; rfl), HB.out.trans (b1.mono HB.out.size)⟩

set_option maxRecDepth 1000000 in
set_option maxHeartbeats 1000000 in
/-- the sizes of needs: they fit, or the answer is below 0 -/
theorem sz_needs (w : World) (v : Value) (l : List Nd) (left : Nat) (h : Sd w v l) (hz : ∀ n ∈ l, n.path.size ≤ 9223372036854775807 ∧ n.pre.size ≤ 9223372036854775807) (hx : l.length ≤ 9223372036854775807) (hlf : left ≤ 1048576) :
    Calls Tryz.prog 25 #[v, .int .i64 (left : Int)] w fun e w' => (∃ r : Int, e = .returned (.int .i64 r) ∧ r ≤ left ∧ (r < 0 ∨ (0 ≤ r ∧ l.length ≤ left ∧ ∀ n ∈ l, n.path.size ≤ left ∧ n.pre.size ≤ left))) ∧ Below w.heap.size w w' := by
  have HS : Hid (Sd w v l) := h
  have HZ : Hid (∀ n ∈ l, n.path.size ≤ 9223372036854775807 ∧ n.pre.size ≤ 9223372036854775807) := hz
  obtain ⟨hcl, ao, cap, rfl, hcap, hnn, _⟩ := h
  clear hz
  by_cases hbig : (left : Int) - l.length < 0
  · go_enter Tryz.func25, Tryz.ntmps25
    go_wp2
    go_ret
    exact ⟨⟨-1, rfl, by omega, .inl (by omega)⟩, Below.refl _ _⟩
  · go_enter Tryz.func25, Tryz.ntmps25
    go_wp2
    go_loopw [1, 5] (fun lf i wr => ∃ (k r : Nat), k ≤ l.length ∧ i = .int .i64 (k : Int) ∧ lf = .int .i64 (r : Int) ∧ r ≤ left ∧ Hid (∀ n ∈ l.take k, n.path.size ≤ left ∧ n.pre.size ≤ left) ∧ Below w.heap.size w wr) (fun _ i _ => l.length - (intOf i).toNat)
    case atStart => exact ⟨0, left - l.length, Nat.zero_le _, rfl, by go_num, by omega, by intro n hn; simp at hn, Below.refl _ _⟩
    case round =>
      obtain ⟨k, r, hk, rfl, rfl, hr, HA, hB⟩ := hrel
      by_cases hlt : k < l.length
      · obtain ⟨n, hn⟩ : ∃ n, l[k]? = some n := ⟨l[k], by simp [hlt]⟩
        obtain ⟨b, off, cap', he, _, c0, c1, c2, c3, c4⟩ := Sd.at (HS.out.later hB) hn
        simp only [Value.slice.injEq] at he
        obtain ⟨rfl, _, rfl⟩ := he
        have hnz := HZ.out n (List.mem_of_getElem? hn)
        have q : ∀ W, _ := fun W => sz_need W n (r : Int) hnz.1 hnz.2 (by omega) (by omega)
        have HT : Hid (l.take (k + 1) = l.take k ++ [n]) := by show _ = _; rw [List.take_add_one, hn]; rfl
        clear hn hnz
        by_cases hc : (r : Int) - n.path.size - n.pre.size < 0
        · simp only [if_pos hc] at q
          go_wp2_with (go_at_call 57; refine (q _).mono ?_; rintro e W1 ⟨rfl, b1⟩)
          go_ret
          exact ⟨⟨-1, rfl, by omega, .inl (by omega)⟩, hB.trans (b1.mono hB.size)⟩
        · simp only [if_neg hc] at q
          obtain ⟨r2, hr2⟩ : ∃ r2 : Nat, (r : Int) - n.path.size - n.pre.size = (r2 : Int) := ⟨((r : Int) - n.path.size - n.pre.size).toNat, by omega⟩
          simp only [hr2] at q
          have hr3 : r2 ≤ left := by omega
          have HN : Hid (∀ x ∈ l.take (k + 1), x.path.size ≤ left ∧ x.pre.size ≤ left) := by
            intro x hx
            rw [HT.out] at hx
            rcases List.mem_append.1 hx with h | h
            · exact HA.out x h
            · simp at h
              subst h
              omega
          clear hc hr2
          go_wp2_with (go_at_call 57; refine (q _).mono ?_; rintro e W1 ⟨rfl, b1⟩)
          go_roundw
          case rel => exact ⟨k + 1, r2, by omega, by go_num, rfl, hr3, HN, hB.trans (b1.mono hB.size)⟩
          case measure => simp [intOf]; omega
      · have HN : Hid (∀ n ∈ l, n.path.size ≤ left ∧ n.pre.size ≤ left) := by
          have := HA.out
          rw [List.take_of_length_le (by omega)] at this
          exact this
        go_wp2
        go_ret
        exact ⟨⟨(r : Int), rfl, by omega, .inr ⟨by omega, by omega, HN.out⟩⟩, hB⟩

theorem infoN : (Tryz.prog.info? 38).map (fun i => (i.zero, i.size, i.bytes)) = some (some (.agg #[.string ⟨#[]⟩, .int .i64 0, .int .i64 0, .int .i64 0, .string ⟨#[]⟩]), 5, 56) := by kernel_rfl

set_option maxRecDepth 1000000 in
set_option maxHeartbeats 1000000 in
/-- a list of needs, turned: a copy in new memory -/
theorem to_needs (w : World) (v : Value) (l : List Nd) (h : Sd w v l) (hx : l.length ≤ 1000000000) :
    Calls Tryz.prog 27 #[v] w fun e w' => ∃ v', e = .returned v' ∧ Od w' w.heap.size w'.heap.size v' l ∧ Below w.heap.size w w' := by
  obtain ⟨i0, hi, hz0, hz1, hz2⟩ := info_parts infoN
  have HS : Hid (Sd w v l) := h
  obtain ⟨hcl, ao, cap, rfl, hcap, hnn, _⟩ := h
  have HCL : Hid ((nds l).length = l.length * 5) := hcl
  clear hcl
  go_enter Tryz.func27, Tryz.ntmps27
  go_wp2_with (first | (at_make; refine wpList_make_full _ rfl _ _ 25 rfl w.heap.size 38 i0 (.agg #[.string ⟨#[]⟩, .int .i64 0, .int .i64 0, .int .i64 0, .string ⟨#[]⟩]) 5 Tryz.underlying25 hi hz0 hz1 _ _ _ _ l.length rfl rfl rfl rfl (by rw [hz2]; omega) (by unfold maxLen; omega) (Nat.le_refl _) ?_; intro w1 hown hgrow))
  have hbel : Below w.heap.size w w1 := (Below.refl _ _).grown hgrow (Nat.le_refl _) (by simp)
  have hsz : w.heap.size < w1.heap.size := (hown.lt w.heap.size rfl).2
  clear hgrow
  go_loopw [4] (fun i wr => ∃ (k : Nat) (L : List Value), k ≤ l.length ∧ i = .int .i64 (k : Int) ∧ Hid (L.take (k * 5) = (nds l).take (k * 5)) ∧ wr.ownsRow w.heap.size 38 5 (.slice (some ⟨w.heap.size, 0, none⟩) l.length l.length) l.length L ∧ Below w.heap.size w wr) (fun i _ => l.length - (intOf i).toNat)
  case atStart => exact ⟨0, _, Nat.zero_le _, rfl, by show _ = _; simp, hown, hbel⟩
  case round =>
    obtain ⟨k, L, hk, rfl, HE, hownr, hbr⟩ := hrel
    have HL : Hid (L.length = l.length * 5) := hownr.1
    clear hown hbel
    by_cases hlt : k < l.length
    · obtain ⟨n, hn⟩ : ∃ n, l[k]? = some n := ⟨l[k], by simp [hlt]⟩
      obtain ⟨b, off, cap', he, _, c0, c1, c2, c3, c4⟩ := Sd.at (HS.out.later hbr) hn
      simp only [Value.slice.injEq] at he
      obtain ⟨rfl, _, rfl⟩ := he
      have q : ∀ W, _ := fun W => to_need W n
      have HG := nds_get l k n hn
      have HG' : Hid _ := HG
      clear hn HG
      have HO : Hid (wr.ownsRow w.heap.size 38 5 (.slice (some ⟨w.heap.size, 0, none⟩) l.length l.length) l.length L) := hownr
      have hgw : w.heap.size < wr.heap.size := (hownr.lt w.heap.size rfl).2
      clear hownr
      go_wp2_with fail
      refine (q _).mono ?_
      rintro e w4 ⟨rfl, b4⟩
      have ho4 : w4.ownsRow w.heap.size 38 5 (.slice (some ⟨w.heap.size, 0, none⟩) l.length l.length) l.length L := ((On.of HO.out).later b4 (Nat.le_refl _)).1
      have hB4 : Below w.heap.size w w4 := hbr.trans (b4.mono hbr.size)
      have th : w4.there w.heap.size (k * 5) 5 := there_own ho4 (by omega)
      obtain ⟨W5, HW5, HO5, HB5⟩ : ∃ W5, Hid (w4.setCells w.heap.size (k * 5) (nc n).toList = W5) ∧ Hid (W5.ownsRow w.heap.size 38 5 (.slice (some ⟨w.heap.size, 0, none⟩) l.length l.length) l.length (putL L (k * 5) (nc n).toList)) ∧ Hid (Below w.heap.size w W5) :=
        ⟨_, rfl, own_setCells _ (k * 5) w4 L ho4, below_setCells (Nat.le_refl _) _ _ w4 hB4⟩
      have HP : Hid ((putL L (k * 5) (nc n).toList).take ((k + 1) * 5) = (nds l).take ((k + 1) * 5)) := by
        refine putL_take (by rw [HL.out, HCL.out]) (by rw [HCL.out]; omega) HE.out rfl ?_
        obtain ⟨g0, g1, g2, g3, g4⟩ := HG'.out
        intro j hj
        match j, hj with
        | 0, _ => exact g0
        | 1, _ => exact g1
        | 2, _ => exact g2
        | 3, _ => exact g3
        | 4, _ => exact g4
      clear ho4 hB4 HO HG' b4 q c0 c1 c2 c3 c4
      go_wp2_with (refine wpList_store_mid rfl 38 _ _ rfl w.heap.size (k * 5) (nc n) rfl rfl th (sizeN n) (oneN n) ?_; rw [HW5.out])
      go_roundw
      case rel => exact ⟨k + 1, _, by omega, by go_num, HP, HO5.out, HB5.out⟩
      case measure => simp [intOf]; omega
    · go_wp2
      go_ret
      refine ⟨_, rfl, ?_, hbr⟩
      have h1 := HE.out
      have h2 := HL.out
      rw [List.take_of_length_le (by omega), List.take_of_length_le (by rw [HCL.out]; omega)] at h1
      subst h1
      exact On.of hownr

set_option maxRecDepth 1000000 in
set_option maxHeartbeats 1000000 in
theorem eq_need (w : World) (n : Nd) :
    Calls Tryz.prog 60 #[.agg #[.string n.path, .int .i64 n.a, .int .i64 n.b, .int .i64 n.c, .string n.pre], .agg #[.string n.path, .int .i64 n.a, .int .i64 n.b, .int .i64 n.c, .string n.pre]] w fun e w' => e = .returned (.bool true) ∧ Below w.heap.size w w' := by
  have q : ∀ W, _ := fun W => eq_same W n.a n.b n.c n.pre
  unfold Ver.ver at q
  have HB : Hid (Below w.heap.size w ((w.alloc (.cells #[.string n.path, .int .i64 n.a, .int .i64 n.b, .int .i64 n.c, .string n.pre] 38)).alloc (.cells #[.string n.path, .int .i64 n.a, .int .i64 n.b, .int .i64 n.c, .string n.pre] 38))) := ((Below.refl _ _).alloc (Nat.le_refl _) _).alloc (by simp) _
  have n1 : (n.path.toList == n.path.toList) = true := by simp
  go_enter Tryz.func60, Tryz.ntmps60
  go_wp2_with (go_at_call 87; refine (q _).mono ?_; rintro e W1 ⟨rfl, b1⟩)
  go_ret
  exact ⟨rfl, HB.out.trans (b1.mono HB.out.size)⟩

end Go.Proofs.YtlhmemnaiobgkaaGreatDoor.Ent

/- Chapter 5, the laws' helpers: whether two lists of needs are the same. -/
namespace Go.Proofs.YtlhmemnaiobgkaaGreatDoor.Ent
open Go.RowKit Go.Proofs.YtlhmemnaiobgkaaGreatDoor.Mem Go.Proofs.YtlhmemnaiobgkaaGreatDoor.Laws Go.Proofs.YtlhmemnaiobgkaaGreatDoor.Bytes Go.Proofs.YtlhmemnaiobgkaaGreatDoor.Sha Go.Proofs.YtlhmemnaiobgkaaGreatDoor.Ver Go.Proofs.YtlhmemnaiobgkaaGreatDoor.Mod
set_option linter.unusedVariables false
set_option linter.unusedSimpArgs false

set_option maxRecDepth 1000000 in
set_option maxHeartbeats 1000000 in
theorem eq_needs (w : World) (v1 v2 : Value) (l : List Nd) (h1 : Sd w v1 l) (h2 : Sd w v2 l) (hx : l.length ≤ 1000000000000) :
    Calls Tryz.prog 28 #[v1, v2] w fun e w' => e = .returned (.bool true) ∧ Below w.heap.size w w' := by
  have HS1 : Hid (Sd w v1 l) := h1
  have HS2 : Hid (Sd w v2 l) := h2
  obtain ⟨_, ao, cap, rfl, hcap, _, _⟩ := h1
  obtain ⟨_, ao2, cap2, rfl, hcap2, _, _⟩ := h2
  have n1 : ((l.length : Int) != (l.length : Int)) = false := by simp
  go_enter Tryz.func28, Tryz.ntmps28
  go_wp2
  go_loopw [5] (fun i wr => ∃ k : Nat, k ≤ l.length ∧ i = .int .i64 (k : Int) ∧ Below w.heap.size w wr) (fun i _ => l.length - (intOf i).toNat)
  case atStart => exact ⟨0, Nat.zero_le _, rfl, Below.refl _ _⟩
  case round =>
    obtain ⟨k, hk, rfl, hB⟩ := hrel
    by_cases hlt : k < l.length
    · obtain ⟨n, hn⟩ : ∃ n, l[k]? = some n := ⟨l[k], by simp [hlt]⟩
      obtain ⟨b, off, cap', he, _, c0, c1, c2, c3, c4⟩ := Sd.at (HS1.out.later hB) hn
      simp only [Value.slice.injEq] at he
      obtain ⟨rfl, _, rfl⟩ := he
      obtain ⟨b2, off2, cap2', he2, _, e0, e1, e2, e3, e4⟩ := Sd.at (HS2.out.later hB) hn
      simp only [Value.slice.injEq] at he2
      obtain ⟨rfl, _, rfl⟩ := he2
      have q : ∀ W, _ := fun W => eq_need W n
      clear hn n1
      go_wp2_with fail
      refine wp_region_held_drew (S := fun w' => w'.cell? ⟨b, off + k * 5, none⟩ = some (.string n.path) ∧ w'.cell? ⟨b, off + k * 5 + 1, none⟩ = some (.int .i64 n.a) ∧ w'.cell? ⟨b, off + k * 5 + 2, none⟩ = some (.int .i64 n.b) ∧ w'.cell? ⟨b, off + k * 5 + 3, none⟩ = some (.int .i64 n.c) ∧ w'.cell? ⟨b, off + k * 5 + 4, none⟩ = some (.string n.pre) ∧ w'.cell? ⟨b2, off2 + k * 5, none⟩ = some (.string n.path) ∧ w'.cell? ⟨b2, off2 + k * 5 + 1, none⟩ = some (.int .i64 n.a) ∧ w'.cell? ⟨b2, off2 + k * 5 + 2, none⟩ = some (.int .i64 n.b) ∧ w'.cell? ⟨b2, off2 + k * 5 + 3, none⟩ = some (.int .i64 n.c) ∧ w'.cell? ⟨b2, off2 + k * 5 + 4, none⟩ = some (.string n.pre)) (by kernel_rfl) ⟨c0, c1, c2, c3, c4, e0, e1, e2, e3, e4⟩ (fun hHeld => ?_)
      (refine wpAnyH_take (i := 0) (v := ?v0x1) rfl (by kernel_rfl) (by kernel_rfl) (by kernel_rfl) (fun _ _ _ h => h) (Or.inl ⟨by rfl, ?hy0x1⟩) (by assumption) ?rest0x1; case hy0x1 => (intro w hSw; (try dsimp only at hSw); go_split_ands; go_simp; (try with_reducible rfl)))
      try simp only [Act.put, List.setIfInBounds_toArray, List.set_cons_zero, List.set_cons_succ, List.getElem_toArray, List.getElem_cons_zero, List.getElem_cons_succ]
      (refine wpAnyH_take (i := 1) (v := ?v1x2) rfl (by kernel_rfl) (by kernel_rfl) (by kernel_rfl) (fun _ _ _ h => h) (Or.inl ⟨by rfl, ?hy1x2⟩) (by assumption) ?rest1x2; case hy1x2 => (intro w hSw; (try dsimp only at hSw); go_split_ands; go_simp; (try with_reducible rfl)))
      try simp only [Act.put, List.setIfInBounds_toArray, List.set_cons_zero, List.set_cons_succ, List.getElem_toArray, List.getElem_cons_zero, List.getElem_cons_succ]
      (refine wpAnyH_take (i := 2) (v := ?v2x3) rfl (by kernel_rfl) (by kernel_rfl) (by kernel_rfl) (fun _ _ _ h => h) (Or.inl ⟨by rfl, ?hy2x3⟩) (by assumption) ?rest2x3; case hy2x3 => (intro w hSw; (try dsimp only at hSw); go_split_ands; go_simp; (try with_reducible rfl)))
      try simp only [Act.put, List.setIfInBounds_toArray, List.set_cons_zero, List.set_cons_succ, List.getElem_toArray, List.getElem_cons_zero, List.getElem_cons_succ]
      (refine wpAnyH_take (i := 3) (v := ?v3x4) rfl (by kernel_rfl) (by kernel_rfl) (by kernel_rfl) (fun _ _ _ h => h) (Or.inl ⟨by rfl, ?hy3x4⟩) (by assumption) ?rest3x4; case hy3x4 => (intro w hSw; (try dsimp only at hSw); go_split_ands; go_simp; (try with_reducible rfl)))
      try simp only [Act.put, List.setIfInBounds_toArray, List.set_cons_zero, List.set_cons_succ, List.getElem_toArray, List.getElem_cons_zero, List.getElem_cons_succ]
      (refine wpAnyH_take (i := 4) (v := ?v4x5) rfl (by kernel_rfl) (by kernel_rfl) (by kernel_rfl) (fun _ _ _ h => h) (Or.inl ⟨by rfl, ?hy4x5⟩) (by assumption) ?rest4x5; case hy4x5 => (intro w hSw; (try dsimp only at hSw); go_split_ands; go_simp; (try with_reducible rfl)))
      try simp only [Act.put, List.setIfInBounds_toArray, List.set_cons_zero, List.set_cons_succ, List.getElem_toArray, List.getElem_cons_zero, List.getElem_cons_succ]
      (refine wpAnyH_take (i := 5) (v := ?v5x6) rfl (by kernel_rfl) (by kernel_rfl) (by kernel_rfl) (fun _ _ _ h => h) (Or.inl ⟨by rfl, ?hy5x6⟩) (by assumption) ?rest5x6; case hy5x6 => (intro w hSw; (try dsimp only at hSw); go_split_ands; go_simp; (try with_reducible rfl)))
      try simp only [Act.put, List.setIfInBounds_toArray, List.set_cons_zero, List.set_cons_succ, List.getElem_toArray, List.getElem_cons_zero, List.getElem_cons_succ]
      (refine wpAnyH_take (i := 6) (v := ?v6x7) rfl (by kernel_rfl) (by kernel_rfl) (by kernel_rfl) (fun _ _ _ h => h) (Or.inl ⟨by rfl, ?hy6x7⟩) (by assumption) ?rest6x7; case hy6x7 => (intro w hSw; (try dsimp only at hSw); go_split_ands; go_simp; (try with_reducible rfl)))
      try simp only [Act.put, List.setIfInBounds_toArray, List.set_cons_zero, List.set_cons_succ, List.getElem_toArray, List.getElem_cons_zero, List.getElem_cons_succ]
      (refine wpAnyH_take (i := 7) (v := ?v7x8) rfl (by kernel_rfl) (by kernel_rfl) (by kernel_rfl) (fun _ _ _ h => h) (Or.inl ⟨by rfl, ?hy7x8⟩) (by assumption) ?rest7x8; case hy7x8 => (intro w hSw; (try dsimp only at hSw); go_split_ands; go_simp; (try with_reducible rfl)))
      try simp only [Act.put, List.setIfInBounds_toArray, List.set_cons_zero, List.set_cons_succ, List.getElem_toArray, List.getElem_cons_zero, List.getElem_cons_succ]
      refine wpAnyH_ready (rs := [8]) (by kernel_rfl) (by simp) ?_
      refine AllReadyH.cons rfl (fun K hK => ?_) AllReadyH.nil
      go_simp
      refine (q _).mono ?_
      rintro e w4 ⟨rfl, b4⟩
      refine hK.out _ _ ?_ (fun hHeld => ?_)
      · obtain ⟨s0, s1, s2, s3, s4, s5, s6, s7, s8, s9⟩ := hHeld; exact ⟨Ver.keepCell s0 b4, Ver.keepCell s1 b4, Ver.keepCell s2 b4, Ver.keepCell s3 b4, Ver.keepCell s4 b4, Ver.keepCell s5 b4, Ver.keepCell s6 b4, Ver.keepCell s7 b4, Ver.keepCell s8 b4, Ver.keepCell s9 b4⟩
      clear hK K
      try simp only [Act.put, List.setIfInBounds_toArray, List.set_cons_zero, List.set_cons_succ, List.getElem_toArray, List.getElem_cons_zero, List.getElem_cons_succ]
      (refine wpAnyH_take (i := 9) (v := ?v9x9) rfl (by kernel_rfl) (by kernel_rfl) (by kernel_rfl) (fun _ _ _ h => h) (Or.inl ⟨by rfl, ?hy9x9⟩) (by assumption) ?rest9x9; case hy9x9 => (intro w hSw; (try dsimp only at hSw); go_split_ands; go_simp; (try with_reducible rfl)))
      try simp only [Act.put, List.setIfInBounds_toArray, List.set_cons_zero, List.set_cons_succ, List.getElem_toArray, List.getElem_cons_zero, List.getElem_cons_succ]
      refine wpAnyH_done (by kernel_rfl) ?_ _
      have hB4 : Below w.heap.size w w4 := (Below.drew hB).trans (b4.mono hB.size)
      clear hHeld c0 c1 c2 c3 c4 e0 e1 e2 e3 e4
      go_wp2
      go_roundw
      case rel => exact ⟨k + 1, by omega, by go_num, hB4⟩
      case measure => simp [intOf]; omega
    · go_wp2
      go_ret
      exact ⟨rfl, hB⟩

end Go.Proofs.YtlhmemnaiobgkaaGreatDoor.Ent

/- Chapter 5, the laws' helpers: an entry's size, its turning, whether two are the same. -/
namespace Go.Proofs.YtlhmemnaiobgkaaGreatDoor.Ent
open Go.RowKit Go.Proofs.YtlhmemnaiobgkaaGreatDoor.Mem Go.Proofs.YtlhmemnaiobgkaaGreatDoor.Laws Go.Proofs.YtlhmemnaiobgkaaGreatDoor.Bytes Go.Proofs.YtlhmemnaiobgkaaGreatDoor.Sha Go.Proofs.YtlhmemnaiobgkaaGreatDoor.Ver Go.Proofs.YtlhmemnaiobgkaaGreatDoor.Mod
set_option linter.unusedVariables false
set_option linter.unusedSimpArgs false

/-- an entry's cells: a need's, and a slice of needs -/
def ec (n : Nd) (v : Value) : Array Value := #[.string n.path, .int .i64 n.a, .int .i64 n.b, .int .i64 n.c, .string n.pre, v]
theorem sizeE (n : Nd) (v : Value) : (Tryz.prog.info? 34).map (·.size) = some (ec n v).size := by
  show _ = some 6
  kernel_rfl
theorem oneE (n : Nd) {v : Value} (h : v.oneCell' = true) : (ec n v).all (·.oneCell') = true := by
  simp [ec, Value.oneCell']
  exact h
theorem one_slice (ao : Option Addr) (m cap : Nat) : (Value.slice ao m cap).oneCell' = true := rfl
theorem Od.keep {w w' : World} {lo hi : Nat} {v : Value} {l : List Nd} (h : Od w lo hi v l) (hk : ∀ k, lo ≤ k → k < hi → w'.heap[k]? = w.heap[k]?) : Od w' lo hi v l := On.keep h hk
theorem Od.slice {w : World} {lo hi : Nat} {v : Value} {l : List Nd} (h : Od w lo hi v l) : ∃ ao cap, v = .slice ao l.length cap := by
  obtain ⟨_, ao, cap, rfl, _⟩ := h.sd
  exact ⟨ao, cap, rfl⟩

set_option maxRecDepth 1000000 in
set_option maxHeartbeats 2000000 in
theorem to_entry (w : World) (n : Nd) (v : Value) (l : List Nd) (h : Sd w v l) (hx : l.length ≤ 1000000000) :
    Calls Tryz.prog 58 #[.agg #[.string n.path, .int .i64 n.a, .int .i64 n.b, .int .i64 n.c, .string n.pre, v]] w fun e w' => ∃ v', e = .returned (.agg #[.string n.path, .int .i64 n.a, .int .i64 n.b, .int .i64 n.c, .string n.pre, v']) ∧ Od w' w.heap.size w'.heap.size v' l ∧ Below w.heap.size w w' := by
  have q : ∀ W, _ := fun W => to_ver W n.a n.b n.c n.pre
  unfold Ver.ver at q
  obtain ⟨W, hW⟩ : ∃ W, W = ((w.alloc (.cells #[.string n.path, .int .i64 n.a, .int .i64 n.b, .int .i64 n.c, .string n.pre, v] 84)).alloc (.cells #[.string ⟨#[]⟩, .int .i64 0, .int .i64 0, .int .i64 0, .string ⟨#[]⟩, .slice none 0 0] 34)).alloc (.cells #[.string n.path, .int .i64 0, .int .i64 0, .int .i64 0, .string ⟨#[]⟩, .slice none 0 0] 34) := ⟨_, rfl⟩
  have HB : Hid (Below w.heap.size w W) := by
    show Below _ _ _
    rw [hW]
    exact (((Below.refl _ _).alloc (Nat.le_refl _) _).alloc (by simp) _).alloc (by simp; omega) _
  have HR0 : Hid (W.heap[w.heap.size]? = some (.cells #[.string n.path, .int .i64 n.a, .int .i64 n.b, .int .i64 n.c, .string n.pre, v] 84 (0, 0))) := by
    show _ = _
    rw [hW, heap_alloc_old _ _ (by simp; omega)]
    exact heap_alloc2_old w _ _
  have HR1 : Hid (W.heap[w.heap.size + 1]? = some (.cells #[.string ⟨#[]⟩, .int .i64 0, .int .i64 0, .int .i64 0, .string ⟨#[]⟩, .slice none 0 0] 34 (0, 0))) := by
    show _ = _
    rw [hW]
    exact midV w _ _ _
  have HR2 : Hid (W.heap[w.heap.size + 1 + 1]? = some (.cells #[.string n.path, .int .i64 0, .int .i64 0, .int .i64 0, .string ⟨#[]⟩, .slice none 0 0] 34 (0, 0))) := by
    show _ = _
    rw [hW]
    have := heap_alloc_new ((w.alloc (.cells #[.string n.path, .int .i64 n.a, .int .i64 n.b, .int .i64 n.c, .string n.pre, v] 84)).alloc (.cells #[.string ⟨#[]⟩, .int .i64 0, .int .i64 0, .int .i64 0, .string ⟨#[]⟩, .slice none 0 0] 34)) (.cells #[.string n.path, .int .i64 0, .int .i64 0, .int .i64 0, .string ⟨#[]⟩, .slice none 0 0] 34)
    simpa using this
  have HZ : Hid (w.heap.size + 1 + 1 < W.heap.size) := (Array.getElem?_eq_some_iff.1 HR2.out).1
  have HS : Hid (Sd w v l) := h
  have q1 := q W
  rw [hW] at q1
  have HW : Hid (W = _) := hW
  clear hW q h
  go_enter Tryz.func58, Tryz.ntmps58
  go_wp2_with fail
  refine q1.mono ?_
  rw [← HW.out]
  rintro e w4 ⟨rfl, b4⟩
  have r0 := rowKeep HR0.out b4
  have r1 := rowKeep HR1.out b4
  have r2 := rowKeep HR2.out b4
  have hB : Below w.heap.size w w4 := HB.out.trans (b4.mono HB.out.size)
  have z4 : w.heap.size + 1 + 1 < w4.heap.size := Nat.lt_of_lt_of_le HZ.out b4.size
  clear HR0 HR1 HR2 HB HW q1 b4 HZ
  obtain ⟨W5, HW5, r05, r15, r25, HB5, z5⟩ : ∃ W5, Hid (w4.setCells (w.heap.size + 1 + 1) 1 (vc n.a n.b n.c n.pre).toList = W5) ∧ W5.heap[w.heap.size]? = some (.cells #[.string n.path, .int .i64 n.a, .int .i64 n.b, .int .i64 n.c, .string n.pre, v] 84 (0, 0)) ∧ W5.heap[w.heap.size + 1]? = some (.cells #[.string ⟨#[]⟩, .int .i64 0, .int .i64 0, .int .i64 0, .string ⟨#[]⟩, .slice none 0 0] 34 (0, 0)) ∧ W5.heap[w.heap.size + 1 + 1]? = some (.cells (ec n (.slice none 0 0)) 34 (0, 0)) ∧ Below w.heap.size w W5 ∧ w.heap.size + 1 + 1 < W5.heap.size :=
    ⟨_, rfl, (heap_setCells_other _ _ (by omega) _ 1 w4).trans r0, (heap_setCells_other _ _ (by omega) _ 1 w4).trans r1, heap_setCells _ _ 1 w4 [.string n.path, .int .i64 0, .int .i64 0, .int .i64 0, .string ⟨#[]⟩, .slice none 0 0] _ r2, below_setCells (g := w.heap.size + 1 + 1) (by omega) _ 1 w4 hB, by rw [size_setCells]; exact z4⟩
  have th := there_row (o := 1) (n := 4) r2 (by simp)
  have c5 : W5.cell? ⟨w.heap.size, 5, none⟩ = some v := row_cells r05 5
  have q2 := to_needs W5 v l (HS.out.later HB5) hx
  have HR1 : Hid _ := r15
  have HR2 : Hid _ := r25
  have HBB : Hid _ := HB5
  have HZ5 : Hid _ := z5
  clear r0 r1 r2 hB r05 r15 r25 HB5 z4 z5 HS
  go_wp2_with (refine wpList_store_mid rfl 32 _ _ rfl (w.heap.size + 1 + 1) 1 (vc n.a n.b n.c n.pre) rfl rfl th (sizeV4 n.a n.b n.c n.pre) (oneV n.a n.b n.c n.pre) ?_; rw [HW5.out])
  refine q2.mono ?_
  rintro e w6 ⟨v', rfl, hod, b6⟩
  have r1 := rowKeep HR1.out b6
  have r2 := rowKeep HR2.out b6
  have hB6 : Below w.heap.size w w6 := HBB.out.trans (b6.mono HBB.out.size)
  obtain ⟨ao, cap, rfl⟩ := hod.slice
  have k5 : w6.cell? ⟨w.heap.size + 1 + 1, 5, none⟩ = some (.slice none 0 0) := row_cells r2 5
  have f5 : w6.frozen? ⟨w.heap.size + 1 + 1, 5, none⟩ = false := frozen_of_row w6 _ 5 _ _ r2
  have HR5 : Hid ((w6.setCell ⟨w.heap.size + 1 + 1, 5, none⟩ (.slice ao l.length cap)).heap[w.heap.size + 1 + 1]? = some (.cells (ec n (.slice ao l.length cap)) 34 (0, 0))) := by
    show _ = _
    rw [heap_setCell_same w6 _ 5 _ _ _ r2]
    rfl
  have HR6 : Hid ((w6.setCell ⟨w.heap.size + 1 + 1, 5, none⟩ (.slice ao l.length cap)).heap[w.heap.size + 1]? = some (.cells #[.string ⟨#[]⟩, .int .i64 0, .int .i64 0, .int .i64 0, .string ⟨#[]⟩, .slice none 0 0] 34 (0, 0))) := (heap_setCell_other w6 ⟨w.heap.size + 1 + 1, 5, none⟩ _ _ (by show _ ≠ w.heap.size + 1 + 1; omega)).trans r1
  have HO : Hid (Od w6 W5.heap.size w6.heap.size (.slice ao l.length cap) l) := hod
  have HB7 : Hid (Below w.heap.size w (w6.setCell ⟨w.heap.size + 1 + 1, 5, none⟩ (.slice ao l.length cap))) := hB6.setCell (p := ⟨w.heap.size + 1 + 1, 5, none⟩) (by show _ ≤ w.heap.size + 1 + 1; omega) _
  clear r1 r2 hod hB6 q2 c5 th HBB HR1 HR2
  go_wp2_with (first | (refine wpList_load_row rfl 34 _ rfl (w.heap.size + 1 + 1) rfl 34 (ec n (.slice ao l.length cap)) (0, 0) _ HR5.out Tryz.underlying34 rfl (sizeE n _) ?_) | (refine wpList_store_row rfl 34 _ _ rfl (w.heap.size + 1) (ec n (.slice ao l.length cap)) rfl rfl 34 _ HR6.out (sizeE n _) rfl (oneE n (one_slice _ _ _)) ?_))
  refine bodyPost_ret (v := .agg (ec n (.slice ao l.length cap))) (results_cell_row rfl _ _ (w.heap.size + 1) 34 _ (0, 0) _ rfl (setRow_heap _ _ _ _ _ (0, 0) HR6.out) Tryz.underlying34 rfl (sizeE n _)) rfl ⟨_, rfl, ?_, below_setRow HB7.out (by omega) _⟩
  have hz5 := HZ5.out
  refine On.mono (lo := W5.heap.size) (hi := w6.heap.size) (Od.keep HO.out fun k h1 h2 => ?_) ?_ ?_
  · rw [setRow_other _ _ _ _ (by omega), heap_setCell_other w6 ⟨w.heap.size + 1 + 1, 5, none⟩ k _ (by show k ≠ w.heap.size + 1 + 1; omega)]
  · omega
  · simp [World.setCell]

set_option maxRecDepth 1000000 in
set_option maxHeartbeats 1000000 in
/-- an entry's size: it fits, or the answer is below 0 -/
theorem sz_entry (w : World) (n : Nd) (v : Value) (l : List Nd) (left : Nat) (h : Sd w v l) (hp : n.path.size ≤ 9223372036854775807) (hq : n.pre.size ≤ 9223372036854775807) (hz : ∀ n ∈ l, n.path.size ≤ 9223372036854775807 ∧ n.pre.size ≤ 9223372036854775807) (hx : l.length ≤ 9223372036854775807) (hlf : left ≤ 1048576) :
    Calls Tryz.prog 56 #[.agg #[.string n.path, .int .i64 n.a, .int .i64 n.b, .int .i64 n.c, .string n.pre, v], .int .i64 (left : Int)] w fun e w' => (∃ r : Int, e = .returned (.int .i64 r) ∧ r ≤ left ∧ (r < 0 ∨ (0 ≤ r ∧ n.path.size ≤ left ∧ n.pre.size ≤ left ∧ l.length ≤ left ∧ ∀ n ∈ l, n.path.size ≤ left ∧ n.pre.size ≤ left))) ∧ Below w.heap.size w w' := by
  have HR : Hid ((w.alloc (.cells #[.string n.path, .int .i64 n.a, .int .i64 n.b, .int .i64 n.c, .string n.pre, v] 84)).heap[w.heap.size]? = some (.cells #[.string n.path, .int .i64 n.a, .int .i64 n.b, .int .i64 n.c, .string n.pre, v] 84 (0, 0))) := heap_alloc_new w _
  have HB : Hid (Below w.heap.size w (w.alloc (.cells #[.string n.path, .int .i64 n.a, .int .i64 n.b, .int .i64 n.c, .string n.pre, v] 84))) := (Below.refl _ _).alloc (Nat.le_refl _) _
  by_cases hb : (left : Int) - (n.path.size : Int) < 0
  · clear HR
    go_enter Tryz.func56, Tryz.ntmps56
    go_wp2
    go_ret
    exact ⟨⟨-1, rfl, by omega, .inl (by omega)⟩, HB.out⟩
  have q : ∀ W, _ := fun W => Ver.sz_any W n.a n.b n.c n.pre ((left : Int) - (n.path.size : Int)) hq (by omega) (by omega)
  unfold Ver.ver at q
  by_cases hc : (left : Int) - (n.path.size : Int) - n.pre.size < 0
  · simp only [if_pos hc] at q
    clear HR
    go_enter Tryz.func56, Tryz.ntmps56
    go_wp2_with (go_at_call 85; refine (q _).mono ?_; rintro e W1 ⟨rfl, b1⟩)
    go_ret
    exact ⟨⟨-1, rfl, by omega, .inl (by omega)⟩, HB.out.trans (b1.mono HB.out.size)⟩
  · simp only [if_neg hc] at q
    obtain ⟨r2, hr2⟩ : ∃ r2 : Nat, (left : Int) - n.path.size - n.pre.size = (r2 : Int) := ⟨((left : Int) - n.path.size - n.pre.size).toNat, by omega⟩
    simp only [hr2] at q
    have hr3 : r2 ≤ left := by omega
    have h1 : n.path.size ≤ left := by omega
    have h2 : n.pre.size ≤ left := by omega
    have q3 : ∀ W, Below w.heap.size w W → _ := fun W hW => sz_needs W v l r2 (h.later hW) hz hx (by omega)
    clear hc hr2 h
    go_enter Tryz.func56, Tryz.ntmps56
    go_wp2_with fail
    refine (q _).mono ?_
    rintro e W1 ⟨rfl, b1⟩
    have hB1 : Below w.heap.size w W1 := HB.out.trans (b1.mono HB.out.size)
    have k5 : W1.cell? ⟨w.heap.size, 5, none⟩ = some v := row_cells (rowKeep HR.out b1) 5
    clear q HR HB b1
    go_wp2_with fail
    refine (q3 _ hB1).mono ?_
    rintro e W2 ⟨⟨r, rfl, hr, hrr⟩, b2⟩
    have hB2 : Below w.heap.size w W2 := hB1.trans (b2.mono hB1.size)
    clear q3 b2 hB1 k5
    rcases hrr with hr0 | ⟨hr0, hl, hall⟩
    · go_wp2
      go_ret
      exact ⟨⟨-1, rfl, by omega, .inl (by omega)⟩, hB2⟩
    · have hr1 : ¬ r < 0 := by omega
      have HA : Hid (∀ n ∈ l, n.path.size ≤ r2 ∧ n.pre.size ≤ r2) := hall
      clear hall
      go_wp2
      go_ret
      exact ⟨⟨r, rfl, by omega, .inr ⟨hr0, h1, h2, by omega, fun x hx => by have := HA.out x hx; omega⟩⟩, hB2⟩

set_option maxRecDepth 1000000 in
set_option maxHeartbeats 1000000 in
theorem eq_entry (w : World) (n : Nd) (v1 v2 : Value) (l : List Nd) (h1 : Sd w v1 l) (h2 : Sd w v2 l) (hx : l.length ≤ 1000000000000) :
    Calls Tryz.prog 61 #[.agg #[.string n.path, .int .i64 n.a, .int .i64 n.b, .int .i64 n.c, .string n.pre, v1], .agg #[.string n.path, .int .i64 n.a, .int .i64 n.b, .int .i64 n.c, .string n.pre, v2]] w fun e w' => e = .returned (.bool true) ∧ Below w.heap.size w w' := by
  have q : ∀ W, _ := fun W => eq_same W n.a n.b n.c n.pre
  unfold Ver.ver at q
  have q3 : ∀ W, Below w.heap.size w W → _ := fun W hW => eq_needs W v1 v2 l (h1.later hW) (h2.later hW) hx
  obtain ⟨W, hW⟩ : ∃ W, W = (w.alloc (.cells #[.string n.path, .int .i64 n.a, .int .i64 n.b, .int .i64 n.c, .string n.pre, v1] 34)).alloc (.cells #[.string n.path, .int .i64 n.a, .int .i64 n.b, .int .i64 n.c, .string n.pre, v2] 34) := ⟨_, rfl⟩
  have HB : Hid (Below w.heap.size w W) := by
    show Below _ _ _
    rw [hW]
    exact ((Below.refl _ _).alloc (Nat.le_refl _) _).alloc (by simp) _
  have HR0 : Hid (W.heap[w.heap.size]? = some (.cells #[.string n.path, .int .i64 n.a, .int .i64 n.b, .int .i64 n.c, .string n.pre, v1] 34 (0, 0))) := by
    show _ = _
    rw [hW]
    exact heap_alloc2_old w _ _
  have HR1 : Hid (W.heap[w.heap.size + 1]? = some (.cells #[.string n.path, .int .i64 n.a, .int .i64 n.b, .int .i64 n.c, .string n.pre, v2] 34 (0, 0))) := by
    show _ = _
    rw [hW]
    exact heap_alloc2_new w _ _
  have q1 := q W
  rw [hW] at q1
  have HW : Hid (W = _) := hW
  clear hW q h1 h2
  have n1 : (n.path.toList == n.path.toList) = true := by simp
  go_enter Tryz.func61, Tryz.ntmps61
  go_wp2_with fail
  refine q1.mono ?_
  rw [← HW.out]
  rintro e W1 ⟨rfl, b1⟩
  have hB1 : Below w.heap.size w W1 := HB.out.trans (b1.mono HB.out.size)
  have k5 : W1.cell? ⟨w.heap.size, 5, none⟩ = some v1 := row_cells (rowKeep HR0.out b1) 5
  have k6 : W1.cell? ⟨w.heap.size + 1, 5, none⟩ = some v2 := row_cells (rowKeep HR1.out b1) 5
  clear q1 HR0 HR1 HB HW b1
  go_wp2_with fail
  refine (q3 _ hB1).mono ?_
  rintro e W2 ⟨rfl, b2⟩
  have hB2 : Below w.heap.size w W2 := hB1.trans (b2.mono hB1.size)
  go_wp2
  go_ret
  exact ⟨rfl, hB2⟩

end Go.Proofs.YtlhmemnaiobgkaaGreatDoor.Ent
