/- Texts in one: Ent7, VerL, Ent3, Ent4, Ent5, Ent6, Puts, Ent8, Gets. -/
import Derived.Test.YtbopliahafkecaaDoorPk11
import Derived.Test.YtbopliahafkecaaDoorPk4
import Derived.Test.YtbopliahafkecaaDoorPk12
import Derived.Test.YtbopliahafkecaaDoorPk8
import Derived.Test.YtbopliahafkecaaDoorPk3
import Derived.Test.YtbopliahafkecaaDoorPk6
import Derived.Test.YtbopliahafkecaaDoorPk2
import Derived.StillTailTactics
import Derived.Laws.CopyOwn
/- Chapter 5, the specification's side: names. -/
namespace Go.Proofs.YtbopliahafkecaaDoor.Ent
open Go.RowKit Go.Proofs.YtbopliahafkecaaDoor.Mem Go.Proofs.YtbopliahafkecaaDoor.Laws Go.Proofs.YtbopliahafkecaaDoor.Bytes Go.Proofs.YtbopliahafkecaaDoor.Sha Go.Proofs.YtbopliahafkecaaDoor.Ver Go.Proofs.YtbopliahafkecaaDoor.Mod
set_option linter.unusedVariables false
set_option linter.unusedSimpArgs false

/-- the name of a need, or of an entry -/
def name5 (n : Nd) : ByteArray := if n.ok = true then n.path ++ ⟨#[64]⟩ ++ Plain.txt (verText n.a n.b n.c n.pre) else ⟨#[]⟩

set_option maxRecDepth 1000000 in
set_option maxHeartbeats 1000000 in
theorem name_spec (w : World) (n : Nd) (hp : n.path.size ≤ 1000000000) (hq : n.pre.size ≤ 1000000000) :
    Calls Tryd.prog 16 #[.string n.path, .agg #[.int .i64 n.a, .int .i64 n.b, .int .i64 n.c, .string n.pre]] w fun e w' => e = .returned (.string (name5 n)) ∧ Below w.heap.size w w' := by
  have HD : Hid (name5 n = if n.ok = true then n.path ++ ⟨#[64]⟩ ++ Plain.txt (verText n.a n.b n.c n.pre) else ⟨#[]⟩) := rfl
  have q1 := fits_spec (w.alloc (.cells #[.int .i64 n.a, .int .i64 n.b, .int .i64 n.c, .string n.pre] 44)) n.path n.a n.b n.c n.pre (by omega) (by omega)
  have q2 : ∀ W, _ := fun W => vtext_spec W n.a n.b n.c n.pre (by omega)
  unfold Ver.ver at q1 q2
  have HR : Hid (Vr (w.alloc (.cells #[.int .i64 n.a, .int .i64 n.b, .int .i64 n.c, .string n.pre] 44)) w.heap.size n.a n.b n.c n.pre) := heap_alloc_new w _
  have HB : Hid (Below w.heap.size w (w.alloc (.cells #[.int .i64 n.a, .int .i64 n.b, .int .i64 n.c, .string n.pre] 44))) := (Below.refl _ _).alloc (Nat.le_refl _) _
  obtain ⟨ok, hok⟩ : ∃ ok, n.ok = ok := ⟨_, rfl⟩
  have hok' : fits4 n.path n.a n.b n.c n.pre = ok := hok
  rw [hok'] at q1
  rw [hok] at HD
  obtain ⟨t, ht⟩ : ∃ t, Plain.txt (verText n.a n.b n.c n.pre) = t := ⟨_, rfl⟩
  simp only [ht] at q2
  rw [ht] at HD
  have htz : t.size ≤ 2000000000 := by
    rw [← ht, txt_sizev]
    unfold verText vt
    split
    · have h6 : ∀ m, (digF 6 m).length ≤ 7 := fun m => (digF_len 6 m).2
      have := h6 n.a.toNat
      have := h6 n.b.toNat
      have := h6 n.c.toNat
      split <;> simp [sb_len] <;> omega
    · simp
  clear hok hok' ht
  go_enter Tryd.func16, Tryd.ntmps16
  go_wp2_with fail
  refine q1.mono ?_
  rintro e w1 ⟨rfl, b1⟩
  have hR := Vr.same HR.out b1
  have hB : Below w.heap.size w w1 := HB.out.trans (b1.mono HB.out.size)
  clear q1 HR HB b1
  cases ok
  · have HN : Hid (name5 n = ⟨#[]⟩) := HD.out
    go_wp2
    go_ret
    exact ⟨by rw [HN.out]; rfl, hB⟩
  · have HN : Hid (name5 n = n.path ++ ⟨#[64]⟩ ++ t) := HD.out
    obtain ⟨k0, k1, k2, k3⟩ := Vr.cells hR
    clear hR HD
    go_wp2_with fail
    refine (q2 _).mono ?_
    rintro e w2 ⟨rfl, b2⟩
    have hB2 : Below w.heap.size w w2 := hB.trans (b2.mono hB.size)
    go_wp2
    go_ret
    exact ⟨by rw [HN.out]; rfl, hB2⟩

def nc5 (n : Nd) : Array Value := #[.string n.path, .int .i64 n.a, .int .i64 n.b, .int .i64 n.c, .string n.pre]

theorem sizeN5 (n : Nd) : (Tryd.prog.info? 46).map (·.size) = some (nc5 n).size := by
  show _ = some 5
  kernel_rfl

theorem oneN5 (n : Nd) : (nc5 n).all (·.oneCell') = true := by simp [nc5, Value.oneCell']

theorem rowStay5 {w w' : World} {g : Nat} {o : Obj} (h : w.heap[g]? = some o) (hb : Below w.heap.size w w') : w'.heap[g]? = some o := (hb.block g (Array.getElem?_eq_some_iff.1 h).1).trans h

def nil5 : Nd := ⟨⟨#[]⟩, 0, 0, 0, ⟨#[]⟩⟩

/-- the need whose name a text is -/
def pn (x : ByteArray) (q : (Int × Int × Int × ByteArray) × Bool) : Nd × Bool :=
  if q.2 = true ∧ fits4 x q.1.1 q.1.2.1 q.1.2.2.1 q.1.2.2.2 = true then (⟨x, q.1.1, q.1.2.1, q.1.2.2.1, q.1.2.2.2⟩, true) else (nil5, false)

def pname (s : ByteArray) : Nd × Bool := match splitT 64 s with
  | [x, y] => pn x (parseV y)
  | _ => (nil5, false)

theorem pname_no {s : ByteArray} (h : (splitT 64 s).length ≠ 2) : pname s = (nil5, false) := by
  unfold pname
  match hs : splitT 64 s with
  | [] => rfl
  | [_] => rfl
  | [_, _] => rw [hs] at h; simp at h
  | _ :: _ :: _ :: _ => rfl

theorem cut_size (t : ByteArray) : (cut t).2.size ≤ t.size := by
  unfold cut
  split
  · simp
  · exact Nat.zero_le _

theorem parse3_size (s u pr : ByteArray) : (parse3 s u pr).1.2.2.2.size ≤ pr.size := by
  unfold parse3
  split
  · split
    · exact Nat.le_refl _
    · exact Nat.zero_le _
  · exact Nat.zero_le _

theorem parseV_size (s : ByteArray) : (parseV s).1.2.2.2.size ≤ s.size := by
  unfold parseV
  split
  · refine Nat.le_trans (parse3_size _ _ _) (Nat.le_trans (cut_size _) ?_)
    simp
  · exact Nat.zero_le _

theorem region_tail5 {P : Program} {id : Nat} {Q : Exit → Act → World → Prop} {a : Act} {w : World} {l : List Oper} (n : Nat) (hm : P.follows .mixedOrders = true) (hB : Region.lexTailB .any l.toArray n = true)
    (h : wpStill P l.toArray w.drew (fun a' => wpList P l.toArray Q (l.drop n) a' w.drew) (l.take n) a) : (Code.region id l.toArray true).wp P Q a w := wp_region_still_tail n hm hB h

theorem below_row {B g : Nat} {a w : World} (h : Below B a w) (hg : B ≤ g) (cs : Array Value) : Below B a (w.setRow g cs) := below_setRow h hg cs

end Go.Proofs.YtbopliahafkecaaDoor.Ent

/- The laws' helpers of chapter 3: a version's size, its turning, whether two are the same. -/
namespace Go.Proofs.YtbopliahafkecaaDoor.Ver
open Go.RowKit Go.Proofs.YtbopliahafkecaaDoor.Mem Go.Proofs.YtbopliahafkecaaDoor.Laws Go.Proofs.YtbopliahafkecaaDoor.Bytes Go.Proofs.YtbopliahafkecaaDoor.Sha
set_option linter.unusedVariables false
set_option linter.unusedSimpArgs false

set_option maxRecDepth 1000000 in
theorem sz_any (w : World) (a b c : Int) (p : ByteArray) (n : Int) (hp : p.size ≤ 9223372036854775807) (h0 : 0 ≤ n) (h1 : n ≤ 1048576) :
    Calls Tryd.prog 26 #[ver a b c p, .int .i64 n] w fun e w' => e = .returned (.int .i64 (if n - p.size < 0 then -1 else n - p.size)) ∧ Below w.heap.size w w' := by
  have HB : Hid (Below w.heap.size w (w.alloc (.cells #[.int .i64 a, .int .i64 b, .int .i64 c, .string p] 36))) := (Below.refl _ _).alloc (Nat.le_refl _) _
  unfold ver
  by_cases h : n - (p.size : Int) < 0
  · rw [if_pos h]
    go_enter Tryd.func26, Tryd.ntmps26
    go_wp2
    go_ret
    exact ⟨rfl, HB.out⟩
  · rw [if_neg h]
    go_enter Tryd.func26, Tryd.ntmps26
    go_wp2
    go_ret
    exact ⟨rfl, HB.out⟩

theorem sizeL (a b c : Int) (p : ByteArray) : (Tryd.prog.info? 36).map (·.size) = some (vc a b c p).size := by
  show _ = some 4
  kernel_rfl

theorem rowStay {w w' : World} {g : Nat} {o : Obj} (h : w.heap[g]? = some o) (hb : Below w.heap.size w w') : w'.heap[g]? = some o := (hb.block g (Array.getElem?_eq_some_iff.1 h).1).trans h

theorem midV (w : World) (A B C : Obj) : (((w.alloc A).alloc B).alloc C).heap[w.heap.size + 1]? = some B := by
  rw [heap_alloc_old ((w.alloc A).alloc B) C (show w.heap.size + 1 < ((w.alloc A).alloc B).heap.size by show _ < ((w.heap.push A).push B).size; simp)]
  exact heap_alloc2_new w A B

set_option maxRecDepth 1000000 in
set_option maxHeartbeats 1000000 in
theorem to_ver (w : World) (a b c : Int) (p : ByteArray) :
    Calls Tryd.prog 31 #[ver a b c p] w fun e w' => e = .returned (ver a b c p) ∧ Below w.heap.size w w' := by
  unfold ver
  go_enter Tryd.func31, Tryd.ntmps31
  go_wp2
  exact bodyPost_ret (v := .agg (vc a b c p)) (results_cell_row rfl _ _ (w.heap.size + 1) 44 _ (0, 0) _ rfl (midV w _ _ _) Tryd.underlying44 rfl (sizeV a b c p)) rfl ⟨rfl, (((Below.refl _ _).alloc (Nat.le_refl _) _).alloc (by simp) _).alloc (by simp; omega) _⟩

set_option maxRecDepth 1000000 in
set_option maxHeartbeats 1000000 in
theorem eq_same (w : World) (a b c : Int) (p : ByteArray) :
    Calls Tryd.prog 39 #[ver a b c p, ver a b c p] w fun e w' => e = .returned (.bool true) ∧ Below w.heap.size w w' := by
  have HB : Hid (Below w.heap.size w ((w.alloc (.cells #[.int .i64 a, .int .i64 b, .int .i64 c, .string p] 44)).alloc (.cells #[.int .i64 a, .int .i64 b, .int .i64 c, .string p] 44))) := ((Below.refl _ _).alloc (Nat.le_refl _) _).alloc (by simp) _
  have n1 : (a != a) = false := by simp
  have n2 : (b != b) = false := by simp
  have n3 : (c != c) = false := by simp
  have n4 : (p.toList == p.toList) = true := by simp
  unfold ver
  go_enter Tryd.func39, Tryd.ntmps39
  go_wp2
  go_ret
  exact ⟨rfl, HB.out⟩

end Go.Proofs.YtbopliahafkecaaDoor.Ver

/- Chapter 5, the laws' helpers: a need's size, its turning, whether two are the same; lists of needs. -/
namespace Go.Proofs.YtbopliahafkecaaDoor.Ent
open Go.RowKit Go.Proofs.YtbopliahafkecaaDoor.Mem Go.Proofs.YtbopliahafkecaaDoor.Laws Go.Proofs.YtbopliahafkecaaDoor.Bytes Go.Proofs.YtbopliahafkecaaDoor.Sha Go.Proofs.YtbopliahafkecaaDoor.Ver Go.Proofs.YtbopliahafkecaaDoor.Mod
set_option linter.unusedVariables false
set_option linter.unusedSimpArgs false

def nc (n : Nd) : Array Value := #[.string n.path, .int .i64 n.a, .int .i64 n.b, .int .i64 n.c, .string n.pre]

theorem sizeN (n : Nd) : (Tryd.prog.info? 46).map (·.size) = some (nc n).size := by
  show _ = some 5
  kernel_rfl

theorem sizeV4 (a b c : Int) (p : ByteArray) : (Tryd.prog.info? 44).map (·.size) = some (vc a b c p).size := by
  show _ = some 4
  kernel_rfl

theorem oneN (n : Nd) : (nc n).all (·.oneCell') = true := by simp [nc, Value.oneCell']

theorem row_cells {w : World} {g : Nat} {cs : Array Value} {t : TypeId} {fr : Nat × Nat} (h : w.heap[g]? = some (.cells cs t fr)) (j : Nat) : w.cell? ⟨g, j, none⟩ = cs[j]? := by simp [World.cell?, h]

set_option maxRecDepth 1000000 in
set_option maxHeartbeats 1000000 in
theorem to_need (w : World) (n : Nd) :
    Calls Tryd.prog 17 #[.agg #[.string n.path, .int .i64 n.a, .int .i64 n.b, .int .i64 n.c, .string n.pre]] w fun e w' => e = .returned (.agg #[.string n.path, .int .i64 n.a, .int .i64 n.b, .int .i64 n.c, .string n.pre]) ∧ Below w.heap.size w w' := by
  have q : ∀ W, _ := fun W => to_ver W n.a n.b n.c n.pre
  unfold Ver.ver at q
  obtain ⟨W, hW⟩ : ∃ W, W = ((w.alloc (.cells #[.string n.path, .int .i64 n.a, .int .i64 n.b, .int .i64 n.c, .string n.pre] 38)).alloc (.cells #[.string ⟨#[]⟩, .int .i64 0, .int .i64 0, .int .i64 0, .string ⟨#[]⟩] 46)).alloc (.cells #[.string n.path, .int .i64 0, .int .i64 0, .int .i64 0, .string ⟨#[]⟩] 46) := ⟨_, rfl⟩
  have HB : Hid (Below w.heap.size w W) := by
    show Below _ _ _
    rw [hW]
    exact (((Below.refl _ _).alloc (Nat.le_refl _) _).alloc (by simp) _).alloc (by simp; omega) _
  have HR1 : Hid (W.heap[w.heap.size + 1]? = some (.cells #[.string ⟨#[]⟩, .int .i64 0, .int .i64 0, .int .i64 0, .string ⟨#[]⟩] 46 (0, 0))) := by
    show _ = _
    rw [hW]
    exact midV w _ _ _
  have HR2 : Hid (W.heap[w.heap.size + 1 + 1]? = some (.cells #[.string n.path, .int .i64 0, .int .i64 0, .int .i64 0, .string ⟨#[]⟩] 46 (0, 0))) := by
    show _ = _
    rw [hW]
    have := heap_alloc_new ((w.alloc (.cells #[.string n.path, .int .i64 n.a, .int .i64 n.b, .int .i64 n.c, .string n.pre] 38)).alloc (.cells #[.string ⟨#[]⟩, .int .i64 0, .int .i64 0, .int .i64 0, .string ⟨#[]⟩] 46)) (.cells #[.string n.path, .int .i64 0, .int .i64 0, .int .i64 0, .string ⟨#[]⟩] 46)
    simpa using this
  have q1 := q W
  rw [hW] at q1
  have HW : Hid (W = _) := hW
  clear hW q
  go_enter Tryd.func17, Tryd.ntmps17
  go_wp2_with fail
  refine q1.mono ?_
  rw [← HW.out]
  rintro e w4 ⟨rfl, b4⟩
  have r1 := rowKeep HR1.out b4
  have r2 := rowKeep HR2.out b4
  have hB : Below w.heap.size w w4 := HB.out.trans (b4.mono HB.out.size)
  clear HR1 HR2 HB HW q1 b4
  obtain ⟨W5, HW5, HR3, HR4, HB3⟩ : ∃ W5, Hid (w4.setCells (w.heap.size + 1 + 1) 1 (vc n.a n.b n.c n.pre).toList = W5) ∧ Hid (W5.heap[w.heap.size + 1 + 1]? = some (.cells (nc n) 46 (0, 0))) ∧ Hid (W5.heap[w.heap.size + 1]? = some (.cells #[.string ⟨#[]⟩, .int .i64 0, .int .i64 0, .int .i64 0, .string ⟨#[]⟩] 46 (0, 0))) ∧ Hid (Below w.heap.size w W5) :=
    ⟨_, rfl, heap_setCells _ _ 1 w4 [.string n.path, .int .i64 0, .int .i64 0, .int .i64 0, .string ⟨#[]⟩] _ r2, (heap_setCells_other _ _ (by omega) _ 1 w4).trans r1, below_setCells (g := w.heap.size + 1 + 1) (by omega) _ 1 w4 hB⟩
  have th := there_row (o := 1) (n := 4) r2 (by simp)
  clear r1 r2 hB
  go_wp2_with (first | (refine wpList_store_mid rfl 44 _ _ rfl (w.heap.size + 1 + 1) 1 (vc n.a n.b n.c n.pre) rfl rfl th (sizeV4 n.a n.b n.c n.pre) (oneV n.a n.b n.c n.pre) ?_; rw [HW5.out]) | (refine wpList_load_row rfl 46 _ rfl (w.heap.size + 1 + 1) rfl 46 (nc n) (0, 0) _ HR3.out Tryd.underlying46 rfl (sizeN n) ?_) | (refine wpList_store_row rfl 46 _ _ rfl (w.heap.size + 1) (nc n) rfl rfl 46 _ HR4.out (sizeN n) rfl (oneN n) ?_))
  exact bodyPost_ret (v := .agg (nc n)) (results_cell_row rfl _ _ (w.heap.size + 1) 46 _ (0, 0) _ rfl (setRow_heap _ _ _ _ _ (0, 0) HR4.out) Tryd.underlying46 rfl (sizeN n)) rfl ⟨rfl, below_setRow HB3.out (by omega) _⟩

set_option maxRecDepth 1000000 in
set_option maxHeartbeats 1000000 in
theorem sz_need (w : World) (n : Nd) (left : Int) (hp : n.path.size ≤ 9223372036854775807) (hq : n.pre.size ≤ 9223372036854775807) (h0 : 0 ≤ left) (h1 : left ≤ 1048576) :
    Calls Tryd.prog 11 #[.agg #[.string n.path, .int .i64 n.a, .int .i64 n.b, .int .i64 n.c, .string n.pre], .int .i64 left] w fun e w' => e = .returned (.int .i64 (if left - n.path.size - n.pre.size < 0 then -1 else left - n.path.size - n.pre.size)) ∧ Below w.heap.size w w' := by
  have HB : Hid (Below w.heap.size w (w.alloc (.cells #[.string n.path, .int .i64 n.a, .int .i64 n.b, .int .i64 n.c, .string n.pre] 38))) := (Below.refl _ _).alloc (Nat.le_refl _) _
  by_cases hb : left - (n.path.size : Int) < 0
  · have HN : Hid ((if left - n.path.size - n.pre.size < 0 then -1 else left - n.path.size - n.pre.size) = (-1 : Int)) := by show _ = _; rw [if_pos (by omega)]
    go_enter Tryd.func11, Tryd.ntmps11
    go_wp2
    go_ret
    exact ⟨by first | rfl | (rw [HN.out]; rfl), HB.out⟩
  · have q : ∀ W, _ := fun W => Ver.sz_any W n.a n.b n.c n.pre (left - (n.path.size : Int)) hq (by omega) (by omega)
    unfold Ver.ver at q
    by_cases hc : left - (n.path.size : Int) - n.pre.size < 0
    · have HN : Hid ((if left - n.path.size - n.pre.size < 0 then -1 else left - n.path.size - n.pre.size) = (-1 : Int)) := by show _ = _; rw [if_pos hc]
      simp only [if_pos hc] at q
      go_enter Tryd.func11, Tryd.ntmps11
      go_wp2_with (go_at_call 26; refine (q _).mono ?_; rintro e W1 ⟨rfl, b1⟩)
      go_ret
      exact ⟨by first | rfl | (rw [HN.out]; rfl), HB.out.trans (b1.mono HB.out.size)⟩
    · have HN : Hid ((if left - n.path.size - n.pre.size < 0 then -1 else left - n.path.size - n.pre.size) = left - n.path.size - n.pre.size) := by show _ = _; rw [if_neg hc]
      simp only [if_neg hc] at q
      go_enter Tryd.func11, Tryd.ntmps11
      go_wp2_with (go_at_call 26; refine (q _).mono ?_; rintro e W1 ⟨rfl, b1⟩)
      go_ret
      exact ⟨by first | rfl | (rw [HN.out]; rfl), HB.out.trans (b1.mono HB.out.size)⟩

set_option maxRecDepth 1000000 in
set_option maxHeartbeats 1000000 in
/-- the sizes of needs: they fit, or the answer is below 0 -/
theorem sz_needs (w : World) (v : Value) (l : List Nd) (left : Nat) (h : Sd w v l) (hz : ∀ n ∈ l, n.path.size ≤ 9223372036854775807 ∧ n.pre.size ≤ 9223372036854775807) (hx : l.length ≤ 9223372036854775807) (hlf : left ≤ 1048576) :
    Calls Tryd.prog 5 #[v, .int .i64 (left : Int)] w fun e w' => (∃ r : Int, e = .returned (.int .i64 r) ∧ r ≤ left ∧ (r < 0 ∨ (0 ≤ r ∧ l.length ≤ left ∧ ∀ n ∈ l, n.path.size ≤ left ∧ n.pre.size ≤ left))) ∧ Below w.heap.size w w' := by
  have HS : Hid (Sd w v l) := h
  have HZ : Hid (∀ n ∈ l, n.path.size ≤ 9223372036854775807 ∧ n.pre.size ≤ 9223372036854775807) := hz
  obtain ⟨hcl, ao, cap, rfl, hcap, hnn, _⟩ := h
  clear hz
  by_cases hbig : (left : Int) - l.length < 0
  · go_enter Tryd.func5, Tryd.ntmps5
    go_wp2
    go_ret
    exact ⟨⟨-1, rfl, by omega, .inl (by omega)⟩, Below.refl _ _⟩
  · go_enter Tryd.func5, Tryd.ntmps5
    go_wp2
    go_loopw [1, 5] (fun lf i wr => ∃ (k r : Nat), k ≤ l.length ∧ i = .int .i64 (k : Int) ∧ lf = .int .i64 (r : Int) ∧ r ≤ left ∧ Hid (∀ n ∈ l.take k, n.path.size ≤ left ∧ n.pre.size ≤ left) ∧ Below w.heap.size w wr) (fun _ i _ => l.length - (intOf i).toNat)
    case atStart => exact ⟨0, left - l.length, Nat.zero_le _, rfl, by go_num, by omega, by intro n hn; simp at hn, Below.refl _ _⟩
    case round =>
      obtain ⟨k, r, hk, rfl, rfl, hr, HA, hB⟩ := hrel
      by_cases hlt : k < l.length
      · obtain ⟨n, hn⟩ : ∃ n, l[k]? = some n := ⟨l[k], by simp [hlt]⟩
        obtain ⟨b, off, cap', he, _, c0, c1, c2, c3, c4⟩ := Sd.at (HS.out.later hB) hn
        simp only [Value.slice.injEq] at he
        obtain ⟨rfl, _, rfl⟩ := he
        have hnz := HZ.out n (List.mem_of_getElem? hn)
        have q : ∀ W, _ := fun W => sz_need W n (r : Int) hnz.1 hnz.2 (by omega) (by omega)
        have HT : Hid (l.take (k + 1) = l.take k ++ [n]) := by show _ = _; rw [List.take_add_one, hn]; rfl
        clear hn hnz
        by_cases hc : (r : Int) - n.path.size - n.pre.size < 0
        · simp only [if_pos hc] at q
          go_wp2_with (go_at_call 11; refine (q _).mono ?_; rintro e W1 ⟨rfl, b1⟩)
          go_ret
          exact ⟨⟨-1, rfl, by omega, .inl (by omega)⟩, hB.trans (b1.mono hB.size)⟩
        · simp only [if_neg hc] at q
          obtain ⟨r2, hr2⟩ : ∃ r2 : Nat, (r : Int) - n.path.size - n.pre.size = (r2 : Int) := ⟨((r : Int) - n.path.size - n.pre.size).toNat, by omega⟩
          simp only [hr2] at q
          have hr3 : r2 ≤ left := by omega
          have HN : Hid (∀ x ∈ l.take (k + 1), x.path.size ≤ left ∧ x.pre.size ≤ left) := by
            intro x hx
            rw [HT.out] at hx
            rcases List.mem_append.1 hx with h | h
            · exact HA.out x h
            · simp at h
              subst h
              omega
          clear hc hr2
          go_wp2_with (go_at_call 11; refine (q _).mono ?_; rintro e W1 ⟨rfl, b1⟩)
          go_roundw
          case rel => exact ⟨k + 1, r2, by omega, by go_num, rfl, hr3, HN, hB.trans (b1.mono hB.size)⟩
          case measure => simp [intOf]; omega
      · have HN : Hid (∀ n ∈ l, n.path.size ≤ left ∧ n.pre.size ≤ left) := by
          have := HA.out
          rw [List.take_of_length_le (by omega)] at this
          exact this
        go_wp2
        go_ret
        exact ⟨⟨(r : Int), rfl, by omega, .inr ⟨by omega, by omega, HN.out⟩⟩, hB⟩

theorem infoN : (Tryd.prog.info? 46).map (fun i => (i.zero, i.size, i.bytes)) = some (some (.agg #[.string ⟨#[]⟩, .int .i64 0, .int .i64 0, .int .i64 0, .string ⟨#[]⟩]), 5, 56) := by kernel_rfl

set_option maxRecDepth 1000000 in
set_option maxHeartbeats 1000000 in
/-- a list of needs, turned: a copy in new memory -/
theorem to_needs (w : World) (v : Value) (l : List Nd) (h : Sd w v l) (hx : l.length ≤ 1000000000) :
    Calls Tryd.prog 8 #[v] w fun e w' => ∃ v', e = .returned v' ∧ Od w' w.heap.size w'.heap.size v' l ∧ Below w.heap.size w w' := by
  obtain ⟨i0, hi, hz0, hz1, hz2⟩ := info_parts infoN
  have HS : Hid (Sd w v l) := h
  obtain ⟨hcl, ao, cap, rfl, hcap, hnn, _⟩ := h
  have HCL : Hid ((nds l).length = l.length * 5) := hcl
  clear hcl
  go_enter Tryd.func8, Tryd.ntmps8
  go_wp2_with (first | (at_make; refine wpList_make_full _ rfl _ _ 30 rfl w.heap.size 46 i0 (.agg #[.string ⟨#[]⟩, .int .i64 0, .int .i64 0, .int .i64 0, .string ⟨#[]⟩]) 5 Tryd.underlying30 hi hz0 hz1 _ _ _ _ l.length rfl rfl rfl rfl (by rw [hz2]; omega) (by unfold maxLen; omega) (Nat.le_refl _) ?_; intro w1 hown hgrow))
  have hbel : Below w.heap.size w w1 := (Below.refl _ _).grown hgrow (Nat.le_refl _) (by simp)
  have hsz : w.heap.size < w1.heap.size := (hown.lt w.heap.size rfl).2
  clear hgrow
  go_loopw [4] (fun i wr => ∃ (k : Nat) (L : List Value), k ≤ l.length ∧ i = .int .i64 (k : Int) ∧ Hid (L.take (k * 5) = (nds l).take (k * 5)) ∧ wr.ownsRow w.heap.size 46 5 (.slice (some ⟨w.heap.size, 0, none⟩) l.length l.length) l.length L ∧ Below w.heap.size w wr) (fun i _ => l.length - (intOf i).toNat)
  case atStart => exact ⟨0, _, Nat.zero_le _, rfl, by show _ = _; simp, hown, hbel⟩
  case round =>
    obtain ⟨k, L, hk, rfl, HE, hownr, hbr⟩ := hrel
    have HL : Hid (L.length = l.length * 5) := hownr.1
    clear hown hbel
    by_cases hlt : k < l.length
    · obtain ⟨n, hn⟩ : ∃ n, l[k]? = some n := ⟨l[k], by simp [hlt]⟩
      obtain ⟨b, off, cap', he, _, c0, c1, c2, c3, c4⟩ := Sd.at (HS.out.later hbr) hn
      simp only [Value.slice.injEq] at he
      obtain ⟨rfl, _, rfl⟩ := he
      have q : ∀ W, _ := fun W => to_need W n
      have HG := nds_get l k n hn
      have HG' : Hid _ := HG
      clear hn HG
      have HO : Hid (wr.ownsRow w.heap.size 46 5 (.slice (some ⟨w.heap.size, 0, none⟩) l.length l.length) l.length L) := hownr
      have hgw : w.heap.size < wr.heap.size := (hownr.lt w.heap.size rfl).2
      clear hownr
      go_wp2_with fail
      refine (q _).mono ?_
      rintro e w4 ⟨rfl, b4⟩
      have ho4 : w4.ownsRow w.heap.size 46 5 (.slice (some ⟨w.heap.size, 0, none⟩) l.length l.length) l.length L := ((On.of HO.out).later b4 (Nat.le_refl _)).1
      have hB4 : Below w.heap.size w w4 := hbr.trans (b4.mono hbr.size)
      have th : w4.there w.heap.size (k * 5) 5 := there_own ho4 (by omega)
      obtain ⟨W5, HW5, HO5, HB5⟩ : ∃ W5, Hid (w4.setCells w.heap.size (k * 5) (nc n).toList = W5) ∧ Hid (W5.ownsRow w.heap.size 46 5 (.slice (some ⟨w.heap.size, 0, none⟩) l.length l.length) l.length (putL L (k * 5) (nc n).toList)) ∧ Hid (Below w.heap.size w W5) :=
        ⟨_, rfl, own_setCells _ (k * 5) w4 L ho4, below_setCells (Nat.le_refl _) _ _ w4 hB4⟩
      have HP : Hid ((putL L (k * 5) (nc n).toList).take ((k + 1) * 5) = (nds l).take ((k + 1) * 5)) := by
        refine putL_take (by rw [HL.out, HCL.out]) (by rw [HCL.out]; omega) HE.out rfl ?_
        obtain ⟨g0, g1, g2, g3, g4⟩ := HG'.out
        intro j hj
        match j, hj with
        | 0, _ => exact g0
        | 1, _ => exact g1
        | 2, _ => exact g2
        | 3, _ => exact g3
        | 4, _ => exact g4
      clear ho4 hB4 HO HG' b4 q c0 c1 c2 c3 c4
      go_wp2_with (refine wpList_store_mid rfl 46 _ _ rfl w.heap.size (k * 5) (nc n) rfl rfl th (sizeN n) (oneN n) ?_; rw [HW5.out])
      go_roundw
      case rel => exact ⟨k + 1, _, by omega, by go_num, HP, HO5.out, HB5.out⟩
      case measure => simp [intOf]; omega
    · go_wp2
      go_ret
      refine ⟨_, rfl, ?_, hbr⟩
      have h1 := HE.out
      have h2 := HL.out
      rw [List.take_of_length_le (by omega), List.take_of_length_le (by rw [HCL.out]; omega)] at h1
      subst h1
      exact On.of hownr

set_option maxRecDepth 1000000 in
set_option maxHeartbeats 1000000 in
theorem eq_need (w : World) (n : Nd) :
    Calls Tryd.prog 25 #[.agg #[.string n.path, .int .i64 n.a, .int .i64 n.b, .int .i64 n.c, .string n.pre], .agg #[.string n.path, .int .i64 n.a, .int .i64 n.b, .int .i64 n.c, .string n.pre]] w fun e w' => e = .returned (.bool true) ∧ Below w.heap.size w w' := by
  have q : ∀ W, _ := fun W => eq_same W n.a n.b n.c n.pre
  unfold Ver.ver at q
  have HB : Hid (Below w.heap.size w ((w.alloc (.cells #[.string n.path, .int .i64 n.a, .int .i64 n.b, .int .i64 n.c, .string n.pre] 46)).alloc (.cells #[.string n.path, .int .i64 n.a, .int .i64 n.b, .int .i64 n.c, .string n.pre] 46))) := ((Below.refl _ _).alloc (Nat.le_refl _) _).alloc (by simp) _
  have n1 : (n.path.toList == n.path.toList) = true := by simp
  go_enter Tryd.func25, Tryd.ntmps25
  go_wp2_with (go_at_call 39; refine (q _).mono ?_; rintro e W1 ⟨rfl, b1⟩)
  go_ret
  exact ⟨rfl, HB.out.trans (b1.mono HB.out.size)⟩

end Go.Proofs.YtbopliahafkecaaDoor.Ent

/- Chapter 5, the laws' helpers: whether two lists of needs are the same. -/
namespace Go.Proofs.YtbopliahafkecaaDoor.Ent
open Go.RowKit Go.Proofs.YtbopliahafkecaaDoor.Mem Go.Proofs.YtbopliahafkecaaDoor.Laws Go.Proofs.YtbopliahafkecaaDoor.Bytes Go.Proofs.YtbopliahafkecaaDoor.Sha Go.Proofs.YtbopliahafkecaaDoor.Ver Go.Proofs.YtbopliahafkecaaDoor.Mod
set_option linter.unusedVariables false
set_option linter.unusedSimpArgs false

set_option maxRecDepth 1000000 in
set_option maxHeartbeats 1000000 in
theorem eq_needs (w : World) (v1 v2 : Value) (l : List Nd) (h1 : Sd w v1 l) (h2 : Sd w v2 l) (hx : l.length ≤ 1000000000000) :
    Calls Tryd.prog 10 #[v1, v2] w fun e w' => e = .returned (.bool true) ∧ Below w.heap.size w w' := by
  have HS1 : Hid (Sd w v1 l) := h1
  have HS2 : Hid (Sd w v2 l) := h2
  obtain ⟨_, ao, cap, rfl, hcap, _, _⟩ := h1
  obtain ⟨_, ao2, cap2, rfl, hcap2, _, _⟩ := h2
  have n1 : ((l.length : Int) != (l.length : Int)) = false := by simp
  go_enter Tryd.func10, Tryd.ntmps10
  go_wp2
  go_loopw [5] (fun i wr => ∃ k : Nat, k ≤ l.length ∧ i = .int .i64 (k : Int) ∧ Below w.heap.size w wr) (fun i _ => l.length - (intOf i).toNat)
  case atStart => exact ⟨0, Nat.zero_le _, rfl, Below.refl _ _⟩
  case round =>
    obtain ⟨k, hk, rfl, hB⟩ := hrel
    by_cases hlt : k < l.length
    · obtain ⟨n, hn⟩ : ∃ n, l[k]? = some n := ⟨l[k], by simp [hlt]⟩
      obtain ⟨b, off, cap', he, _, c0, c1, c2, c3, c4⟩ := Sd.at (HS1.out.later hB) hn
      simp only [Value.slice.injEq] at he
      obtain ⟨rfl, _, rfl⟩ := he
      obtain ⟨b2, off2, cap2', he2, _, e0, e1, e2, e3, e4⟩ := Sd.at (HS2.out.later hB) hn
      simp only [Value.slice.injEq] at he2
      obtain ⟨rfl, _, rfl⟩ := he2
      have q : ∀ W, _ := fun W => eq_need W n
      clear hn n1
      go_wp2_with fail
      refine wp_region_held_drew (S := fun w' => w'.cell? ⟨b, off + k * 5, none⟩ = some (.string n.path) ∧ w'.cell? ⟨b, off + k * 5 + 1, none⟩ = some (.int .i64 n.a) ∧ w'.cell? ⟨b, off + k * 5 + 2, none⟩ = some (.int .i64 n.b) ∧ w'.cell? ⟨b, off + k * 5 + 3, none⟩ = some (.int .i64 n.c) ∧ w'.cell? ⟨b, off + k * 5 + 4, none⟩ = some (.string n.pre) ∧ w'.cell? ⟨b2, off2 + k * 5, none⟩ = some (.string n.path) ∧ w'.cell? ⟨b2, off2 + k * 5 + 1, none⟩ = some (.int .i64 n.a) ∧ w'.cell? ⟨b2, off2 + k * 5 + 2, none⟩ = some (.int .i64 n.b) ∧ w'.cell? ⟨b2, off2 + k * 5 + 3, none⟩ = some (.int .i64 n.c) ∧ w'.cell? ⟨b2, off2 + k * 5 + 4, none⟩ = some (.string n.pre)) (by kernel_rfl) ⟨c0, c1, c2, c3, c4, e0, e1, e2, e3, e4⟩ (fun hHeld => ?_)
      (refine wpAnyH_take (i := 0) (v := ?v0x1) rfl (by kernel_rfl) (by kernel_rfl) (by kernel_rfl) (fun _ _ _ h => h) (Or.inl ⟨by rfl, ?hy0x1⟩) (by assumption) ?rest0x1; case hy0x1 => (intro w hSw; (try dsimp only at hSw); go_split_ands; go_simp; (try with_reducible rfl)))
      try simp only [Act.put, List.setIfInBounds_toArray, List.set_cons_zero, List.set_cons_succ, List.getElem_toArray, List.getElem_cons_zero, List.getElem_cons_succ]
      (refine wpAnyH_take (i := 1) (v := ?v1x2) rfl (by kernel_rfl) (by kernel_rfl) (by kernel_rfl) (fun _ _ _ h => h) (Or.inl ⟨by rfl, ?hy1x2⟩) (by assumption) ?rest1x2; case hy1x2 => (intro w hSw; (try dsimp only at hSw); go_split_ands; go_simp; (try with_reducible rfl)))
      try simp only [Act.put, List.setIfInBounds_toArray, List.set_cons_zero, List.set_cons_succ, List.getElem_toArray, List.getElem_cons_zero, List.getElem_cons_succ]
      (refine wpAnyH_take (i := 2) (v := ?v2x3) rfl (by kernel_rfl) (by kernel_rfl) (by kernel_rfl) (fun _ _ _ h => h) (Or.inl ⟨by rfl, ?hy2x3⟩) (by assumption) ?rest2x3; case hy2x3 => (intro w hSw; (try dsimp only at hSw); go_split_ands; go_simp; (try with_reducible rfl)))
      try simp only [Act.put, List.setIfInBounds_toArray, List.set_cons_zero, List.set_cons_succ, List.getElem_toArray, List.getElem_cons_zero, List.getElem_cons_succ]
      (refine wpAnyH_take (i := 3) (v := ?v3x4) rfl (by kernel_rfl) (by kernel_rfl) (by kernel_rfl) (fun _ _ _ h => h) (Or.inl ⟨by rfl, ?hy3x4⟩) (by assumption) ?rest3x4; case hy3x4 => (intro w hSw; (try dsimp only at hSw); go_split_ands; go_simp; (try with_reducible rfl)))
      try simp only [Act.put, List.setIfInBounds_toArray, List.set_cons_zero, List.set_cons_succ, List.getElem_toArray, List.getElem_cons_zero, List.getElem_cons_succ]
      (refine wpAnyH_take (i := 4) (v := ?v4x5) rfl (by kernel_rfl) (by kernel_rfl) (by kernel_rfl) (fun _ _ _ h => h) (Or.inl ⟨by rfl, ?hy4x5⟩) (by assumption) ?rest4x5; case hy4x5 => (intro w hSw; (try dsimp only at hSw); go_split_ands; go_simp; (try with_reducible rfl)))
      try simp only [Act.put, List.setIfInBounds_toArray, List.set_cons_zero, List.set_cons_succ, List.getElem_toArray, List.getElem_cons_zero, List.getElem_cons_succ]
      (refine wpAnyH_take (i := 5) (v := ?v5x6) rfl (by kernel_rfl) (by kernel_rfl) (by kernel_rfl) (fun _ _ _ h => h) (Or.inl ⟨by rfl, ?hy5x6⟩) (by assumption) ?rest5x6; case hy5x6 => (intro w hSw; (try dsimp only at hSw); go_split_ands; go_simp; (try with_reducible rfl)))
      try simp only [Act.put, List.setIfInBounds_toArray, List.set_cons_zero, List.set_cons_succ, List.getElem_toArray, List.getElem_cons_zero, List.getElem_cons_succ]
      (refine wpAnyH_take (i := 6) (v := ?v6x7) rfl (by kernel_rfl) (by kernel_rfl) (by kernel_rfl) (fun _ _ _ h => h) (Or.inl ⟨by rfl, ?hy6x7⟩) (by assumption) ?rest6x7; case hy6x7 => (intro w hSw; (try dsimp only at hSw); go_split_ands; go_simp; (try with_reducible rfl)))
      try simp only [Act.put, List.setIfInBounds_toArray, List.set_cons_zero, List.set_cons_succ, List.getElem_toArray, List.getElem_cons_zero, List.getElem_cons_succ]
      (refine wpAnyH_take (i := 7) (v := ?v7x8) rfl (by kernel_rfl) (by kernel_rfl) (by kernel_rfl) (fun _ _ _ h => h) (Or.inl ⟨by rfl, ?hy7x8⟩) (by assumption) ?rest7x8; case hy7x8 => (intro w hSw; (try dsimp only at hSw); go_split_ands; go_simp; (try with_reducible rfl)))
      try simp only [Act.put, List.setIfInBounds_toArray, List.set_cons_zero, List.set_cons_succ, List.getElem_toArray, List.getElem_cons_zero, List.getElem_cons_succ]
      refine wpAnyH_ready (rs := [8]) (by kernel_rfl) (by simp) ?_
      refine AllReadyH.cons rfl (fun K hK => ?_) AllReadyH.nil
      go_simp
      refine (q _).mono ?_
      rintro e w4 ⟨rfl, b4⟩
      refine hK.out _ _ ?_ (fun hHeld => ?_)
      · obtain ⟨s0, s1, s2, s3, s4, s5, s6, s7, s8, s9⟩ := hHeld; exact ⟨Ver.keepCell s0 b4, Ver.keepCell s1 b4, Ver.keepCell s2 b4, Ver.keepCell s3 b4, Ver.keepCell s4 b4, Ver.keepCell s5 b4, Ver.keepCell s6 b4, Ver.keepCell s7 b4, Ver.keepCell s8 b4, Ver.keepCell s9 b4⟩
      clear hK K
      try simp only [Act.put, List.setIfInBounds_toArray, List.set_cons_zero, List.set_cons_succ, List.getElem_toArray, List.getElem_cons_zero, List.getElem_cons_succ]
      (refine wpAnyH_take (i := 9) (v := ?v9x9) rfl (by kernel_rfl) (by kernel_rfl) (by kernel_rfl) (fun _ _ _ h => h) (Or.inl ⟨by rfl, ?hy9x9⟩) (by assumption) ?rest9x9; case hy9x9 => (intro w hSw; (try dsimp only at hSw); go_split_ands; go_simp; (try with_reducible rfl)))
      try simp only [Act.put, List.setIfInBounds_toArray, List.set_cons_zero, List.set_cons_succ, List.getElem_toArray, List.getElem_cons_zero, List.getElem_cons_succ]
      refine wpAnyH_done (by kernel_rfl) ?_ _
      have hB4 : Below w.heap.size w w4 := (Below.drew hB).trans (b4.mono hB.size)
      clear hHeld c0 c1 c2 c3 c4 e0 e1 e2 e3 e4
      go_wp2
      go_roundw
      case rel => exact ⟨k + 1, by omega, by go_num, hB4⟩
      case measure => simp [intOf]; omega
    · go_wp2
      go_ret
      exact ⟨rfl, hB⟩

end Go.Proofs.YtbopliahafkecaaDoor.Ent

/- Chapter 5, the laws' helpers: an entry's size, its turning, whether two are the same. -/
namespace Go.Proofs.YtbopliahafkecaaDoor.Ent
open Go.RowKit Go.Proofs.YtbopliahafkecaaDoor.Mem Go.Proofs.YtbopliahafkecaaDoor.Laws Go.Proofs.YtbopliahafkecaaDoor.Bytes Go.Proofs.YtbopliahafkecaaDoor.Sha Go.Proofs.YtbopliahafkecaaDoor.Ver Go.Proofs.YtbopliahafkecaaDoor.Mod
set_option linter.unusedVariables false
set_option linter.unusedSimpArgs false

/-- an entry's cells: a need's, and a slice of needs -/
def ec (n : Nd) (v : Value) : Array Value := #[.string n.path, .int .i64 n.a, .int .i64 n.b, .int .i64 n.c, .string n.pre, v]

theorem sizeE (n : Nd) (v : Value) : (Tryd.prog.info? 130).map (·.size) = some (ec n v).size := by
  show _ = some 6
  kernel_rfl

theorem oneE (n : Nd) {v : Value} (h : v.oneCell' = true) : (ec n v).all (·.oneCell') = true := by
  simp [ec, Value.oneCell']
  exact h

theorem one_slice (ao : Option Addr) (m cap : Nat) : (Value.slice ao m cap).oneCell' = true := rfl

theorem Od.keep {w w' : World} {lo hi : Nat} {v : Value} {l : List Nd} (h : Od w lo hi v l) (hk : ∀ k, lo ≤ k → k < hi → w'.heap[k]? = w.heap[k]?) : Od w' lo hi v l := On.keep h hk

theorem Od.slice {w : World} {lo hi : Nat} {v : Value} {l : List Nd} (h : Od w lo hi v l) : ∃ ao cap, v = .slice ao l.length cap := by
  obtain ⟨_, ao, cap, rfl, _⟩ := h.sd
  exact ⟨ao, cap, rfl⟩

end Go.Proofs.YtbopliahafkecaaDoor.Ent

/- Chapter 5, the specification's side: is an entry right. -/
namespace Go.Proofs.YtbopliahafkecaaDoor.Ent
open Go.RowKit Go.Proofs.YtbopliahafkecaaDoor.Mem Go.Proofs.YtbopliahafkecaaDoor.Laws Go.Proofs.YtbopliahafkecaaDoor.Bytes Go.Proofs.YtbopliahafkecaaDoor.Sha Go.Proofs.YtbopliahafkecaaDoor.Ver Go.Proofs.YtbopliahafkecaaDoor.Mod
set_option linter.unusedVariables false
set_option linter.unusedSimpArgs false

/-- does it need itself -/
def self5 (n : Nd) (l : List Nd) : Bool := l.any fun x => eqT x.path n.path

def entry5 (n : Nd) (l : List Nd) : Bool := !self5 n l && n.ok && decide (l.length ≤ 8) && rise l

theorem self5_take {n x : Nd} {l : List Nd} {k : Nat} (h : l[k]? = some x) : self5 n (l.take (k + 1)) = (self5 n (l.take k) || eqT x.path n.path) := by
  unfold self5
  rw [List.take_add_one, h, List.any_append]
  simp

theorem self5_bad {n x : Nd} {l : List Nd} {k : Nat} (h : l[k]? = some x) (he : eqT x.path n.path = true) : self5 n l = true := by
  unfold self5
  rw [List.any_eq_true]
  exact ⟨x, List.mem_of_getElem? h, he⟩

end Go.Proofs.YtbopliahafkecaaDoor.Ent

/- Contracts of PutNum, the program's and the specification's: both make, in new memory, the bytes that were there and the number's groups behind them. -/
namespace Go.Proofs.YtbopliahafkecaaDoor.Puts
open Go.RowKit Go.Proofs.YtbopliahafkecaaDoor.Mem Go.Proofs.YtbopliahafkecaaDoor.Plain Go.Proofs.YtbopliahafkecaaDoor.Laws Go.Proofs.YtbopliahafkecaaDoor.Bytes
set_option linter.unusedVariables false

/-- the bytes of a number as it is put -/
def num (n : Int) : List Int := enc (clampN n).toNat

theorem num_byt (n : Int) : Byt (num n) := enc_byte _

theorem num_len (n : Int) : 1 ≤ (num n).length ∧ (num n).length ≤ 5 := ⟨enc_len _, enc_len5 _ (by have := clampN_bd n; omega)⟩

theorem byte_small {m : Nat} (h : m < 128) (ys : List Int) : ys ++ [(m : Int)] = ys ++ enc m := by rw [enc_small h]

theorem one_byte (x : Int) : ∀ u ∈ [Value.int .u8 x], u.oneCell' = true := by
  intro u hu
  rw [List.mem_singleton] at hu
  rw [hu]
  rfl

theorem new_cell (w : World) (u : Value) (t : TypeId) : (w.alloc (.cells #[u] t)).cell? ⟨w.heap.size, 0, none⟩ = some u := by
  rw [cell_of_row _ w.heap.size 0 #[u] t (0, 0) (heap_alloc_new w _)]
  rfl

theorem Own.empty (w : World) (lo : Nat) (h : lo ≤ w.heap.size) : Own (w.alloc (.cells #[] 5)) lo (w.alloc (.cells #[] 5)).heap.size 5 (.slice (some ⟨w.heap.size, 0, none⟩) 0 0) (bs []) :=
  Own.of (World.ownsRow_lit w #[] 0 h (Nat.zero_le _) rfl)

/-- the bytes of texts, each behind its length -/
def tx (s : ByteArray) : List Int := num (s.size : Int) ++ sb s

def tot : List ByteArray → Nat
  | [] => 0
  | s :: r => s.size + tot r

def txs : List ByteArray → List Int
  | [] => []
  | s :: r => tx s ++ txs r

theorem tx_len (s : ByteArray) : (tx s).length ≤ s.size + 5 := by
  unfold tx; have := num_len (s.size : Int); rw [List.length_append, sb_len]; omega

theorem txs_len (l : List ByteArray) : (txs l).length ≤ 5 * l.length + tot l := by
  induction l with
  | nil => simp [txs, tot]
  | cons s r ih => have := tx_len s; simp only [txs, tot, List.length_append, List.length_cons]; omega

theorem tx_byt (s : ByteArray) : Byt (tx s) := (num_byt _).app (sb_byt _)

theorem Sl.oneStr (w : World) (s : ByteArray) (t : TypeId) : Sl (w.alloc (.cells #[.string s] t)) (.slice (some ⟨w.heap.size, 0, none⟩) 1 1) (ss [s]) := Sl.one w (.string s) t

theorem drop_str {l : List ByteArray} {k : Nat} {s : ByteArray} (h : l[k]? = some s) : l.drop k = s :: l.drop (k + 1) := by
  obtain ⟨hk, rfl⟩ := List.getElem?_eq_some_iff.1 h
  exact List.drop_eq_getElem_cons hk

end Go.Proofs.YtbopliahafkecaaDoor.Puts

/- Chapter 5, the specification's side: an entry's text. -/
namespace Go.Proofs.YtbopliahafkecaaDoor.Ent
open Go.RowKit Go.Proofs.YtbopliahafkecaaDoor.Mem Go.Proofs.YtbopliahafkecaaDoor.Laws Go.Proofs.YtbopliahafkecaaDoor.Bytes Go.Proofs.YtbopliahafkecaaDoor.Sha Go.Proofs.YtbopliahafkecaaDoor.Ver Go.Proofs.YtbopliahafkecaaDoor.Mod
set_option linter.unusedVariables false
set_option linter.unusedSimpArgs false

/-- an entry's text -/
def put5 (n : Nd) (l : List Nd) : ByteArray := if entry5 n l = true then Plain.txt (Puts.tx (name5 n) ++ Puts.num (l.length : Int) ++ Puts.txs (l.map name5)) else ⟨#[]⟩

theorem name5_size {n : Nd} : (name5 n).size ≤ n.path.size + n.pre.size + 100 := by
  unfold name5
  split
  · rw [ByteArray.size_append, ByteArray.size_append, txt_sizev]
    have h1 : (⟨#[64]⟩ : ByteArray).size = 1 := rfl
    have : (verText n.a n.b n.c n.pre).length ≤ n.pre.size + 50 := by
      unfold verText vt
      split
      · have h6 : ∀ m, (digF 6 m).length ≤ 7 := fun m => (digF_len 6 m).2
        have := h6 n.a.toNat
        have := h6 n.b.toNat
        have := h6 n.c.toNat
        split <;> simp [sb_len] <;> omega
      · simp
    omega
  · exact Nat.zero_le _

theorem txs_byt5 : ∀ l : List ByteArray, Byt (Puts.txs l) := by
  intro l
  induction l with
  | nil => intro x hx; cases hx
  | cons s r ih => exact (Puts.tx_byt s).app ih

theorem keepB {W W' : World} {p : Addr} {x : Value} {B : Nat} (h : W.cell? p = some x) (b : Below B W W') (hp : p.block < B) : W'.cell? p = some x := (b.cell hp).trans h

theorem tot_name (l : List Nd) (h : ∀ x ∈ l, x.path.size ≤ 1048576 ∧ x.pre.size ≤ 1048576) : Puts.tot (l.map name5) ≤ l.length * 2100000 := by
  induction l with
  | nil => simp [Puts.tot]
  | cons x r ih =>
    have h1 := h x (by simp)
    have h2 := name5_size (n := x)
    have h3 := ih (fun y hy => h y (by simp [hy]))
    simp only [List.map_cons, Puts.tot, List.length_cons]
    omega

end Go.Proofs.YtbopliahafkecaaDoor.Ent

/- Contracts of GetNum, the program's and the specification's: both answer 'getNum' of the bytes, and turn nothing. -/
namespace Go.Proofs.YtbopliahafkecaaDoor.Gets
open Go.RowKit Go.Proofs.YtbopliahafkecaaDoor.Mem Go.Proofs.YtbopliahafkecaaDoor.Plain
set_option linter.unusedVariables false

theorem ret3 {a a' b b' : Int} {c c' : Bool} (h1 : a = a') (h2 : b = b') (h3 : c = c') : Ending.returned (.tuple #[.int .i64 a, .int .i64 b, .bool c]) = .returned (.tuple #[.int .i64 a', .int .i64 b', .bool c']) := by rw [h1, h2, h3]

theorem getNum_out {xs : List Int} {at_ : Int} (h : at_ < 0 ∨ (xs.length : Int) ≤ at_) : getNum xs at_ = (0, 0, false) := by
  unfold getNum; rw [if_neg (by omega)]

theorem getNum_none {xs : List Int} {a : Nat} (ha : a < xs.length) (h : dec 0 0 1 (xs.drop a) = none) : getNum xs (a : Int) = (0, 0, false) := by
  unfold getNum; rw [if_pos (by omega)]; simp [h]

theorem getNum_some {xs : List Int} {a : Nat} {n : Int} {k : Nat} (ha : a < xs.length) (h : dec 0 0 1 (xs.drop a) = some (n, k)) : getNum xs (a : Int) = (n, (a : Int) + k, true) := by
  unfold getNum; rw [if_pos (by omega)]; simp [h]

theorem drop_at {xs : List Int} {a k : Nat} {c : Int} (h : xs[a + k]? = some c) : xs.drop (a + k) = c :: xs.drop (a + (k + 1)) := by
  obtain ⟨hk, rfl⟩ := List.getElem?_eq_some_iff.1 h
  rw [List.drop_eq_getElem_cons hk]; rfl

theorem dec_more {k : Nat} {N W c : Int} {r : List Int} (h5 : k ≠ 5) (hc : 128 ≤ c) : dec k N W (c :: r) = dec (k + 1) (N + c % 128 * W) (W * 128) r := by
  rw [dec, if_neg h5, if_pos hc]

theorem dec_five {N W c : Int} {r : List Int} : dec 5 N W (c :: r) = none := by rw [dec, if_pos rfl]

theorem dec_bad {k : Nat} {N W c : Int} {r : List Int} (h5 : k ≠ 5) (hc : c < 128) (hb : 1000000000 < N + c % 128 * W ∨ (0 < k ∧ c % 128 = 0)) : dec k N W (c :: r) = none := by
  rw [dec, if_neg h5, if_neg (by omega), if_pos hb]

theorem dec_good {k : Nat} {N W c : Int} {r : List Int} (h5 : k ≠ 5) (hc : c < 128) (hb : ¬ (1000000000 < N + c % 128 * W ∨ (0 < k ∧ c % 128 = 0))) : dec k N W (c :: r) = some (N + c % 128 * W, k + 1) := by
  rw [dec, if_neg h5, if_neg (by omega), if_neg hb]

theorem pow_bd {k : Nat} (hk : k < 5) : 1 ≤ (128 : Int) ^ k ∧ (128 : Int) ^ k ≤ 268435456 := by
  rcases (show k = 0 ∨ k = 1 ∨ k = 2 ∨ k = 3 ∨ k = 4 by omega) with rfl | rfl | rfl | rfl | rfl <;> decide

theorem prod_bd {c W : Int} (hW : 1 ≤ W) : 0 ≤ c % 128 * W ∧ c % 128 * W ≤ 127 * W :=
  ⟨Int.mul_nonneg (by omega) (by omega), Int.mul_le_mul_of_nonneg_right (by omega) (by omega)⟩

theorem and127b {c : Int} (h : 0 ≤ c ∧ c ≤ 255) : bits .and .i64 c 127 = c % 128 := and127 h.1 (by omega)

end Go.Proofs.YtbopliahafkecaaDoor.Gets
