/- Texts in one: Ent7, EntY. -/
import Derived.Test.YtepcpnnnhdbjgamDoorPk8
import Derived.Test.YtepcpnnnhdbjgamDoorPk9
import Derived.Test.YtepcpnnnhdbjgamDoorPk10
import Derived.Test.YtepcpnnnhdbjgamDoorPk5
import Derived.StillTailTactics
/- Chapter 5, the specification's side: names. -/
namespace Go.Proofs.YtepcpnnnhdbjgamDoor.Ent
open Go.RowKit Go.Proofs.YtepcpnnnhdbjgamDoor.Mem Go.Proofs.YtepcpnnnhdbjgamDoor.Laws Go.Proofs.YtepcpnnnhdbjgamDoor.Bytes Go.Proofs.YtepcpnnnhdbjgamDoor.Sha Go.Proofs.YtepcpnnnhdbjgamDoor.Ver Go.Proofs.YtepcpnnnhdbjgamDoor.Mod
set_option linter.unusedVariables false
set_option linter.unusedSimpArgs false

/-- the name of a need, or of an entry -/
def name5 (n : Nd) : ByteArray := if n.ok = true then n.path ++ ⟨#[64]⟩ ++ Plain.txt (verText n.a n.b n.c n.pre) else ⟨#[]⟩

set_option maxRecDepth 1000000 in
set_option maxHeartbeats 1000000 in
theorem name_spec (w : World) (n : Nd) (hp : n.path.size ≤ 1000000000) (hq : n.pre.size ≤ 1000000000) :
    Calls Tryd.prog 11 #[.string n.path, .agg #[.int .i64 n.a, .int .i64 n.b, .int .i64 n.c, .string n.pre]] w fun e w' => e = .returned (.string (name5 n)) ∧ Below w.heap.size w w' := by
  have HD : Hid (name5 n = if n.ok = true then n.path ++ ⟨#[64]⟩ ++ Plain.txt (verText n.a n.b n.c n.pre) else ⟨#[]⟩) := rfl
  have q1 := fits_spec (w.alloc (.cells #[.int .i64 n.a, .int .i64 n.b, .int .i64 n.c, .string n.pre] 29)) n.path n.a n.b n.c n.pre (by omega) (by omega)
  have q2 : ∀ W, _ := fun W => vtext_spec W n.a n.b n.c n.pre (by omega)
  unfold Ver.ver at q1 q2
  have HR : Hid (Vr (w.alloc (.cells #[.int .i64 n.a, .int .i64 n.b, .int .i64 n.c, .string n.pre] 29)) w.heap.size n.a n.b n.c n.pre) := heap_alloc_new w _
  have HB : Hid (Below w.heap.size w (w.alloc (.cells #[.int .i64 n.a, .int .i64 n.b, .int .i64 n.c, .string n.pre] 29))) := (Below.refl _ _).alloc (Nat.le_refl _) _
  obtain ⟨ok, hok⟩ : ∃ ok, n.ok = ok := ⟨_, rfl⟩
  have hok' : fits4 n.path n.a n.b n.c n.pre = ok := hok
  rw [hok'] at q1
  rw [hok] at HD
  obtain ⟨t, ht⟩ : ∃ t, Plain.txt (verText n.a n.b n.c n.pre) = t := ⟨_, rfl⟩
  simp only [ht] at q2
  rw [ht] at HD
  have htz : t.size ≤ 2000000000 := by
    rw [← ht, txt_sizev]
    unfold verText vt
    split
    · have h6 : ∀ m, (digF 6 m).length ≤ 7 := fun m => (digF_len 6 m).2
      have := h6 n.a.toNat
      have := h6 n.b.toNat
      have := h6 n.c.toNat
      split <;> simp [sb_len] <;> omega
    · simp
  clear hok hok' ht
  go_enter Tryd.func11, Tryd.ntmps11
  go_wp2_with fail
  refine q1.mono ?_
  rintro e w1 ⟨rfl, b1⟩
  have hR := Vr.same HR.out b1
  have hB : Below w.heap.size w w1 := HB.out.trans (b1.mono HB.out.size)
  clear q1 HR HB b1
  cases ok
  · have HN : Hid (name5 n = ⟨#[]⟩) := HD.out
    go_wp2
    go_ret
    exact ⟨by rw [HN.out]; rfl, hB⟩
  · have HN : Hid (name5 n = n.path ++ ⟨#[64]⟩ ++ t) := HD.out
    obtain ⟨k0, k1, k2, k3⟩ := Vr.cells hR
    clear hR HD
    go_wp2_with fail
    refine (q2 _).mono ?_
    rintro e w2 ⟨rfl, b2⟩
    have hB2 : Below w.heap.size w w2 := hB.trans (b2.mono hB.size)
    go_wp2
    go_ret
    exact ⟨by rw [HN.out]; rfl, hB2⟩

def nc5 (n : Nd) : Array Value := #[.string n.path, .int .i64 n.a, .int .i64 n.b, .int .i64 n.c, .string n.pre]
theorem sizeN5 (n : Nd) : (Tryd.prog.info? 42).map (·.size) = some (nc5 n).size := by
  show _ = some 5
  kernel_rfl
theorem oneN5 (n : Nd) : (nc5 n).all (·.oneCell') = true := by simp [nc5, Value.oneCell']
theorem rowStay5 {w w' : World} {g : Nat} {o : Obj} (h : w.heap[g]? = some o) (hb : Below w.heap.size w w') : w'.heap[g]? = some o := (hb.block g (Array.getElem?_eq_some_iff.1 h).1).trans h
def nil5 : Nd := ⟨⟨#[]⟩, 0, 0, 0, ⟨#[]⟩⟩
/-- the need whose name a text is -/
def pn (x : ByteArray) (q : (Int × Int × Int × ByteArray) × Bool) : Nd × Bool :=
  if q.2 = true ∧ fits4 x q.1.1 q.1.2.1 q.1.2.2.1 q.1.2.2.2 = true then (⟨x, q.1.1, q.1.2.1, q.1.2.2.1, q.1.2.2.2⟩, true) else (nil5, false)
def pname (s : ByteArray) : Nd × Bool := match splitT 64 s with
  | [x, y] => pn x (parseV y)
  | _ => (nil5, false)
theorem pname_no {s : ByteArray} (h : (splitT 64 s).length ≠ 2) : pname s = (nil5, false) := by
  unfold pname
  match hs : splitT 64 s with
  | [] => rfl
  | [_] => rfl
  | [_, _] => rw [hs] at h; simp at h
  | _ :: _ :: _ :: _ => rfl

theorem cut_size (t : ByteArray) : (cut t).2.size ≤ t.size := by
  unfold cut
  split
  · simp
  · exact Nat.zero_le _
theorem parse3_size (s u pr : ByteArray) : (parse3 s u pr).1.2.2.2.size ≤ pr.size := by
  unfold parse3
  split
  · split
    · exact Nat.le_refl _
    · exact Nat.zero_le _
  · exact Nat.zero_le _
theorem parseV_size (s : ByteArray) : (parseV s).1.2.2.2.size ≤ s.size := by
  unfold parseV
  split
  · refine Nat.le_trans (parse3_size _ _ _) (Nat.le_trans (cut_size _) ?_)
    simp
  · exact Nat.zero_le _
theorem region_tail5 {P : Program} {id : Nat} {Q : Exit → Act → World → Prop} {a : Act} {w : World} {l : List Oper} (n : Nat) (hm : P.follows .mixedOrders = true) (hB : Region.lexTailB .any l.toArray n = true)
    (h : wpStill P l.toArray w.drew (fun a' => wpList P l.toArray Q (l.drop n) a' w.drew) (l.take n) a) : (Code.region id l.toArray true).wp P Q a w := wp_region_still_tail n hm hB h
theorem below_row {B g : Nat} {a w : World} (h : Below B a w) (hg : B ≤ g) (cs : Array Value) : Below B a (w.setRow g cs) := below_setRow h hg cs

end Go.Proofs.YtepcpnnnhdbjgamDoor.Ent

/- Chapter 5: the exact laws of names, over contracts of the landed functions. -/
namespace Go.Proofs.YtepcpnnnhdbjgamDoor.Ent
open Go.RowKit Go.Proofs.YtepcpnnnhdbjgamDoor.Mem Go.Proofs.YtepcpnnnhdbjgamDoor.Laws Go.Proofs.YtepcpnnnhdbjgamDoor.Bytes Go.Proofs.YtepcpnnnhdbjgamDoor.Sha Go.Proofs.YtepcpnnnhdbjgamDoor.Ver Go.Proofs.YtepcpnnnhdbjgamDoor.Mod
set_option linter.unusedVariables false
set_option linter.unusedSimpArgs false

set_option maxRecDepth 1000000 in
set_option maxHeartbeats 2000000 in
theorem exact_name (w : World) (s : ByteArray) (a0 b0 c0 : Int) (p0 : ByteArray) (hm : s.size ≤ maxLen) (wp0 : p0.size ≤ maxLen)
    (iF : ∀ W, Below w.heap.size w W → s.size ≤ 1048576 → p0.size ≤ 1048576 → Calls Tryd.prog 13 #[.string s, .agg #[.int .i64 a0, .int .i64 b0, .int .i64 c0, .string p0]] W fun e w' => e = .returned (.string (name5 ⟨s, a0, b0, c0, p0⟩)) ∧ Below W.heap.size W w') :
    Calls Tryd.prog 4 #[.string s, .agg #[.int .i64 a0, .int .i64 b0, .int .i64 c0, .string p0]] w fun e w' => e = .returned (.bool true) ∧ Below w.heap.size w w' := by
  unfold maxLen at hm wp0
  have HB : Hid (Below w.heap.size w (w.alloc (.cells #[.int .i64 a0, .int .i64 b0, .int .i64 c0, .string p0] 23))) := (Below.refl _ _).alloc (Nat.le_refl _) _
  have HR : Hid ((w.alloc (.cells #[.int .i64 a0, .int .i64 b0, .int .i64 c0, .string p0] 23)).heap[w.heap.size]? = some (.cells (Ver.vc a0 b0 c0 p0) 23 (0, 0))) := heap_alloc_new w _
  by_cases hbs : 1048576 < s.size
  · have hb : (1048576 : Int) < (s.size : Int) := by omega
    clear hbs iF HR
    go_enter Tryd.func4, Tryd.ntmps4
    go_wp2
    go_ret
    exact ⟨rfl, HB.out⟩
  have hb : ¬ (1048576 : Int) < (s.size : Int) := by omega
  have q0 := Ver.sz_any (w.alloc (.cells #[.int .i64 a0, .int .i64 b0, .int .i64 c0, .string p0] 23)) a0 b0 c0 p0 1048576 (by omega) (by omega) (by omega)
  unfold Ver.ver at q0
  by_cases hbig : (1048576 : Int) - p0.size < 0
  · rw [if_pos hbig] at q0
    clear hbig iF
    go_enter Tryd.func4, Tryd.ntmps4
    go_wp2_with (go_at_call 10; refine q0.mono ?_; rintro e W1 ⟨rfl, b1⟩)
    go_ret
    exact ⟨rfl, HB.out.trans (b1.mono HB.out.size)⟩
  · rw [if_neg hbig] at q0
    have hp0 : p0.size ≤ 1048576 := by omega
    have hq0 : ¬ (1048576 : Int) - p0.size < 0 := by omega
    have q3 : ∀ W, _ := fun W => name_spec W ⟨s, a0, b0, c0, p0⟩ (by show s.size ≤ _; omega) (by show p0.size ≤ _; omega)
    have q5 : ∀ W, Below w.heap.size w W → _ := fun W h => iF W h (by omega) hp0
    simp only at q3
    obtain ⟨x, hx⟩ : ∃ x, name5 ⟨s, a0, b0, c0, p0⟩ = x := ⟨_, rfl⟩
    simp only [hx] at q3 q5
    clear hbig iF hx
    go_enter Tryd.func4, Tryd.ntmps4
    go_wp2_with fail
    refine q0.mono ?_
    rintro e W1 ⟨rfl, b1⟩
    have R1 := Ver.rowStay HR.out b1
    have B1 : Below w.heap.size w W1 := HB.out.trans (b1.mono HB.out.size)
    clear q0 b1 HR HB
    go_wp2_with (refine wpList_load_row rfl 23 _ rfl w.heap.size rfl 23 (Ver.vc a0 b0 c0 p0) (0, 0) _ R1 Tryd.underlying23 rfl (Ver.sizeL a0 b0 c0 p0) ?_)
    refine (Ver.to_ver W1 a0 b0 c0 p0).mono ?_
    rintro e W2 ⟨rfl, b2⟩
    have R2 := Ver.rowStay R1 b2
    have B2 : Below w.heap.size w W2 := B1.trans (b2.mono B1.size)
    clear R1 B1 b2
    go_wp2_with (refine wpList_load_row rfl 23 _ rfl w.heap.size rfl 23 (Ver.vc a0 b0 c0 p0) (0, 0) _ R2 Tryd.underlying23 rfl (Ver.sizeL a0 b0 c0 p0) ?_)
    refine (q3 W2).mono ?_
    rintro e W3 ⟨rfl, b3⟩
    have R3 := Ver.rowStay R2 b3
    have B3 : Below w.heap.size w W3 := B2.trans (b3.mono B2.size)
    clear R2 B2 b3
    go_wp2_with (refine wpList_load_row rfl 23 _ rfl w.heap.size rfl 23 (Ver.vc a0 b0 c0 p0) (0, 0) _ R3 Tryd.underlying23 rfl (Ver.sizeL a0 b0 c0 p0) ?_)
    refine (Ver.to_ver W3 a0 b0 c0 p0).mono ?_
    rintro e W4 ⟨rfl, b4⟩
    have R4 := Ver.rowStay R3 b4
    have B4 : Below w.heap.size w W4 := B3.trans (b4.mono B3.size)
    clear R3 B3 b4
    go_wp2_with (refine wpList_load_row rfl 23 _ rfl w.heap.size rfl 23 (Ver.vc a0 b0 c0 p0) (0, 0) _ R4 Tryd.underlying23 rfl (Ver.sizeL a0 b0 c0 p0) ?_)
    refine (q5 W4 B4).mono ?_
    rintro e W5 ⟨rfl, b5⟩
    have B5 : Below w.heap.size w W5 := B4.trans (b5.mono B4.size)
    clear R4 B4 b5 q3 q5
    have n1 : (x.toList == x.toList) = true := by simp
    go_wp2_with fail
    go_ret
    exact ⟨rfl, B5⟩

end Go.Proofs.YtepcpnnnhdbjgamDoor.Ent
