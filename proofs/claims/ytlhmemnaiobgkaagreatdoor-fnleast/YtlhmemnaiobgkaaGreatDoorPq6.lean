/- Texts in one: Ver8, Draw3, Row. -/
import Derived.Test.YtlhmemnaiobgkaaGreatDoorPq5
import Derived.Test.YtlhmemnaiobgkaaGreatDoorPq4
import Derived.Test.YtlhmemnaiobgkaaGreatDoorPq3
import Derived.Laws.Rows
import Derived.Laws.CopyOwn
import Derived.Deep.QuietTactic
/- Chapter 3, the specification's side: what is bumped. -/
namespace Go.Proofs.YtlhmemnaiobgkaaGreatDoor.Ver
set_option linter.unusedVariables false
set_option linter.unusedSimpArgs false
open Go.RowKit Go.Proofs.YtlhmemnaiobgkaaGreatDoor.Mem Go.Proofs.YtlhmemnaiobgkaaGreatDoor.Laws Go.Proofs.YtlhmemnaiobgkaaGreatDoor.Bytes Go.Proofs.YtlhmemnaiobgkaaGreatDoor.Sha

/-- what is bumped -/
def bump (a b c : Int) (p : ByteArray) (part : Int) : Int × Int × Int × ByteArray :=
  if okV a b c p = true then
    (if part = 0 then (if okV (a + 1) 0 0 ⟨#[]⟩ = true then (a + 1, 0, 0, ⟨#[]⟩) else (a, b, c, p))
     else if part = 1 then (if okV a (b + 1) 0 ⟨#[]⟩ = true then (a, b + 1, 0, ⟨#[]⟩) else (a, b, c, p))
     else if part = 2 then (if okV a b (c + 1) ⟨#[]⟩ = true then (a, b, c + 1, ⟨#[]⟩) else (a, b, c, p))
     else (a, b, c, p))
  else (a, b, c, p)
def verQ (q : Int × Int × Int × ByteArray) : Value := ver q.1 q.2.1 q.2.2.1 q.2.2.2

/-- a version's cells -/
def vc (a b c : Int) (p : ByteArray) : Array Value := #[.int .i64 a, .int .i64 b, .int .i64 c, .string p]
/-- block g holds a version -/
def Vr (w : World) (g : Nat) (a b c : Int) (p : ByteArray) : Prop := w.heap[g]? = some (.cells (vc a b c p) 32 (0, 0))
theorem Vr.lt {w : World} {g : Nat} {a b c : Int} {p : ByteArray} (h : Vr w g a b c p) : g < w.heap.size := (Array.getElem?_eq_some_iff.1 h).1
theorem Vr.same {w w' : World} {g : Nat} {a b c : Int} {p : ByteArray} (h : Vr w g a b c p) (hb : Below w.heap.size w w') : Vr w' g a b c p := (hb.block g h.lt).trans h
theorem Vr.cells {w : World} {g : Nat} {a b c : Int} {p : ByteArray} (h : Vr w g a b c p) : w.cell? ⟨g, 0, none⟩ = some (.int .i64 a) ∧ w.cell? ⟨g, 1, none⟩ = some (.int .i64 b) ∧ w.cell? ⟨g, 2, none⟩ = some (.int .i64 c) ∧ w.cell? ⟨g, 3, none⟩ = some (.string p) :=
  ⟨(cell_of_row w g 0 _ _ _ h).trans rfl, (cell_of_row w g 1 _ _ _ h).trans rfl, (cell_of_row w g 2 _ _ _ h).trans rfl, (cell_of_row w g 3 _ _ _ h).trans rfl⟩
theorem sizeV (a b c : Int) (p : ByteArray) : (Tryz.prog.info? 32).map (·.size) = some (vc a b c p).size := by
  show _ = some 4
  kernel_rfl
theorem oneV (a b c : Int) (p : ByteArray) : (vc a b c p).all (·.oneCell') = true := by unfold vc; simp [Value.oneCell']
theorem Vr.row {w : World} {g : Nat} {a b c : Int} {p : ByteArray} (h : Vr w g a b c p) (a' b' c' : Int) (p' : ByteArray) : Vr (w.setRow g (vc a' b' c' p')) g a' b' c' p' := setRow_heap w g _ _ _ _ h

end Go.Proofs.YtlhmemnaiobgkaaGreatDoor.Ver

/- Chapter 3's draws: a right version; three; whatever version. -/
namespace Go.Proofs.YtlhmemnaiobgkaaGreatDoor.Ver
open Go.RowKit Go.Proofs.YtlhmemnaiobgkaaGreatDoor.Mem Go.Proofs.YtlhmemnaiobgkaaGreatDoor.Laws Go.Proofs.YtlhmemnaiobgkaaGreatDoor.Bytes Go.Proofs.YtlhmemnaiobgkaaGreatDoor.Sha Go.Proofs.YtlhmemnaiobgkaaGreatDoor.Draw
set_option linter.unusedVariables false
set_option linter.unusedSimpArgs false

/-- what may stand behind a drawn version -/
def preL : List ByteArray := [⟨#[]⟩, ⟨#[]⟩, ⟨#[]⟩, ⟨#[114, 99, 46, 49]⟩, ⟨#[97, 108, 112, 104, 97]⟩, ⟨#[114, 99, 46, 50]⟩, ⟨#[49]⟩, ⟨#[50, 46, 120]⟩, ⟨#[98, 101, 116, 97, 45, 49]⟩, ⟨#[114, 99]⟩]
theorem preL_size : ∀ s ∈ preL, s.size ≤ 8 := by decide
/-- a drawn version -/
def Dv (a b c : Int) (p : ByteArray) : Prop := (0 ≤ a ∧ a ≤ 2) ∧ (0 ≤ b ∧ b < 4) ∧ (0 ≤ c ∧ c < 3) ∧ p ∈ preL

theorem Vr.apart {w w' : World} {g q : Nat} {a b c : Int} {p : ByteArray} (h : Vr w q a b c p) (ha : Apart g (g + 1) w w') (hne : q ≠ g) : Vr w' q a b c p := (ha.block q h.lt (by omega)).trans h

theorem info3v : (Tryz.prog.info? 3).map (fun i => (i.zero, i.size, i.bytes)) = some (some (.int .i64 0), 1, 8) := by kernel_rfl

set_option maxRecDepth 1000000 in
set_option maxHeartbeats 1000000 in
theorem draw_any (W0 w : World) (g : Nat) (vb : Value) (xs : List Int) (hs : Sl W0 vb (bs xs)) (hby : Byt xs) (hx : xs.length ≤ 140737488355328) (hB : Below W0.heap.size W0 w) (hg : W0.heap.size ≤ g) (hc : Cur w g vb xs.length) :
    Calls Tryz.prog 66 #[.pointer (some ⟨g, 0, none⟩)] w fun e w' => ∃ a b c p, e = .returned (ver a b c p) ∧ Dv a b c p ∧ Drawn W0 w g vb xs w' := by
  have hgw := hc.lt
  have V0 : Vr (w.alloc (.cells (vc 0 0 0 ⟨#[]⟩) 32)) w.heap.size 0 0 0 ⟨#[]⟩ := heap_alloc_new w _
  have hd0 : Drawn W0 w g vb xs (w.alloc (.cells (vc 0 0 0 ⟨#[]⟩) 32)) := (Drawn.refl hB hc).on hg hgw ((Below.refl _ _).alloc (Nat.le_refl _) _)
  have hd1 : ∀ o, Drawn W0 w g vb xs ((w.alloc (.cells (vc 0 0 0 ⟨#[]⟩) 32)).alloc o) := fun o => hd0.on hg hgw ((Below.refl _ _).alloc (by simp) _)
  have V1 : ∀ o, Vr ((w.alloc (.cells (vc 0 0 0 ⟨#[]⟩) 32)).alloc o) w.heap.size 0 0 0 ⟨#[]⟩ := fun o => Vr.same V0 ((Below.refl _ _).alloc (Nat.le_refl _) _)
  have hg2 : w.heap.size + 1 ≠ g := by omega
  clear V0 hd0
  go_enter Tryz.func66, Tryz.ntmps66
  go_wp2_with fail
  refine (int_any W0 _ g vb xs (w.heap.size + 1) [1, 0, 1, 2] (heap_alloc2_new w _ _) hg2 (by decide) (by decide) hs hby hx (hd1 _).below hg (hd1 _).cur).mono ?_
  rintro e w2 ⟨a, rfl, ha, hd2⟩
  have V2 := Vr.apart (V1 _) hd2.apart (by omega)
  have D2 := (hd1 _).and hd2
  clear hd1 V1 hd2
  go_wp2_with fail
  refine (below_any W0 _ g vb xs 4 (by omega) (by omega) hs hby hx D2.below hg D2.cur).mono ?_
  rintro e w3 ⟨b, rfl, b0, b1, hd3⟩
  have V3 := Vr.apart V2 hd3.apart (by omega)
  have D3 := D2.and hd3
  clear V2 hd3 D2
  go_wp2_with fail
  refine (below_any W0 _ g vb xs 3 (by omega) (by omega) hs hby hx D3.below hg D3.cur).mono ?_
  rintro e w4 ⟨c, rfl, c0, c1, hd4⟩
  have V4 := Vr.apart V3 hd4.apart (by omega)
  have D4 := D3.and hd4
  have hgr : g < w4.heap.size := D4.cur.lt
  have D5 : ∀ o, Drawn W0 w g vb xs (w4.alloc o) := fun o => D4.on hg hgw ((Below.refl _ _).alloc D4.apart.size _)
  have V5 : ∀ o, Vr (w4.alloc o) w.heap.size 0 0 0 ⟨#[]⟩ := fun o => Vr.same V4 ((Below.refl _ _).alloc (Nat.le_refl _) _)
  clear V3 hd4 D3 V4 D4
  go_wp2_with fail
  refine (str_any W0 _ g vb xs w4.heap.size preL (lit_block _ _ _) (by omega) (by decide) (by decide) hs hby hx (D5 _).below hg (D5 _).cur).mono ?_
  rintro e w6 ⟨p, rfl, hp, hd6⟩
  have V6 := Vr.apart (V5 _) hd6.apart (by omega)
  have D6 := (D5 _).and hd6
  clear V5 hd6 D5
  go_wp2_with (refine wpList_store_row rfl 32 _ _ rfl w.heap.size (vc a b c p) rfl rfl 32 (vc 0 0 0 ⟨#[]⟩) V6 (sizeV a b c p) rfl (oneV a b c p) ?_)
  refine bodyPost_ret (v := .agg (vc a b c p)) (results_cell_row rfl _ _ w.heap.size 32 _ (0, 0) _ rfl (Vr.row V6 a b c p) Tryz.underlying32 rfl (sizeV a b c p)) rfl ⟨a, b, c, p, rfl, ⟨?_, ⟨b0, b1⟩, ⟨c0, c1⟩, hp⟩, D6.on hg hgw (below_setRow (Below.refl _ _) (Nat.le_refl _) _)⟩
  simp at ha
  omega

set_option maxRecDepth 1000000 in
theorem once_any (W0 w : World) (g : Nat) (vb : Value) (xs : List Int) (n : Int) (hn1 : 1 ≤ n) (hn2 : n ≤ 9223372036854775807) (hs : Sl W0 vb (bs xs)) (hby : Byt xs) (hx : xs.length ≤ 140737488355328) (hB : Below W0.heap.size W0 w) (hg : W0.heap.size ≤ g) (hc : Cur w g vb xs.length) :
    Calls Tryz.prog 39 #[.pointer (some ⟨g, 0, none⟩), .int .i64 n] w fun e w' => ∃ b : Bool, e = .returned (.bool b) ∧ Drawn W0 w g vb xs w' := by
  go_enter Tryz.func39, Tryz.ntmps39
  go_wp2_with fail
  refine (below_any W0 _ g vb xs n hn1 hn2 hs hby hx hB hg hc).mono ?_
  rintro e w2 ⟨a, rfl, a0, a1, hd2⟩
  go_wp2_with fail
  go_ret
  exact ⟨_, rfl, hd2⟩

end Go.Proofs.YtlhmemnaiobgkaaGreatDoor.Ver

/- Slices whose elements have several cells: what such a slice reads ('Sn'), what a call owns ('On'), what an append does; no program is named here. -/
namespace Go.Proofs.YtlhmemnaiobgkaaGreatDoor.Mem
open Go.RowKit
set_option linter.unusedVariables false
set_option linter.unusedSimpArgs false

/-- v is a slice of m elements of n cells each, which hold cs. -/
def Sn (n : Nat) (w : World) (v : Value) (m : Nat) (cs : List Value) : Prop :=
  cs.length = m * n ∧ ∃ (ao : Option Addr) (cap : Nat), v = .slice ao m cap ∧ m ≤ cap ∧ (ao = none → cap = 0) ∧
    (0 < m → ∃ b off, ao = some ⟨b, off, none⟩ ∧ ∀ j, j < cs.length → w.cell? ⟨b, off + j, none⟩ = cs[j]?)

/-- v owns m elements of n cells each, which hold cs, in a block from lo on and below hi. -/
def On (n : Nat) (w : World) (lo hi : Nat) (e : TypeId) (v : Value) (m : Nat) (cs : List Value) : Prop :=
  w.ownsRow lo e n v m cs ∧ ∀ g, v.ownBlock = some g → g < hi

theorem Sn.nil (n : Nat) (w : World) : Sn n w (.slice none 0 0) 0 [] := ⟨by simp, none, 0, rfl, Nat.le_refl _, fun _ => rfl, fun h => by omega⟩

theorem Sn.later {n m : Nat} {w w' : World} {v : Value} {cs : List Value} (h : Sn n w v m cs) (hb : Below w.heap.size w w') : Sn n w' v m cs := by
  obtain ⟨hl, ao, cap, rfl, hc, hn, hr⟩ := h
  refine ⟨hl, ao, cap, rfl, hc, hn, fun hp => ?_⟩
  obtain ⟨b, off, rfl, hcell⟩ := hr hp
  refine ⟨b, off, rfl, fun j hj => ?_⟩
  have hlt : b < w.heap.size := World.block_lt_of_cell? w ⟨b, off + j, none⟩ (u := cs[j]) (by rw [hcell j hj]; simp [hj])
  rw [hb.cell (p := ⟨b, off + j, none⟩) hlt]
  exact hcell j hj
theorem Sn.quiet {n m : Nat} {w : World} {v : Value} {cs : List Value} (h : Sn n w v m cs) (k : Nat) : Sn n (w.drewN k) v m cs := h

/-- the beginning of a slice -/
theorem Sn.front {n m : Nat} {w : World} {ao : Option Addr} {cap : Nat} {cs : List Value} (h : Sn n w (.slice ao m cap) m cs) (k : Nat) (hk : k ≤ m) : Sn n w (.slice ao k cap) k (cs.take (k * n)) := by
  obtain ⟨hl, ao', cap', he, hc, hn, hr⟩ := h
  simp only [Value.slice.injEq] at he
  obtain ⟨rfl, _, rfl⟩ := he
  have hkn : k * n ≤ m * n := Nat.mul_le_mul_right _ hk
  have hl2 : (cs.take (k * n)).length = k * n := by rw [List.length_take, hl]; omega
  refine ⟨hl2, ao, cap, rfl, by omega, hn, fun hp => ?_⟩
  obtain ⟨b, off, rfl, hcell⟩ := hr (by omega)
  refine ⟨b, off, rfl, fun j hj => ?_⟩
  rw [hl2] at hj
  rw [hcell j (by omega), List.getElem?_take, if_pos hj]

/-- where the cells of an element lie -/
theorem Sn.at {n m : Nat} {w : World} {v : Value} {cs : List Value} (h : Sn n w v m cs) {k : Nat} (hk : k < m) : ∃ b off cap, v = .slice (some ⟨b, off, none⟩) m cap ∧ m ≤ cap ∧ ∀ j, j < n → w.cell? ⟨b, off + (k * n + j), none⟩ = cs[k * n + j]? := by
  obtain ⟨hl, ao, cap, rfl, hc, hn, hr⟩ := h
  obtain ⟨b, off, rfl, hcell⟩ := hr (by omega)
  refine ⟨b, off, cap, rfl, hc, fun j hj => hcell _ ?_⟩
  have : (k + 1) * n ≤ m * n := Nat.mul_le_mul_right _ hk
  rw [Nat.add_mul, Nat.one_mul] at this
  omega

theorem On.sn {n m : Nat} {w : World} {lo hi : Nat} {e : TypeId} {v : Value} {cs : List Value} (h : On n w lo hi e v m cs) : Sn n w v m cs := by
  obtain ⟨⟨h1, h2⟩, _⟩ := h
  rcases h2 with ⟨rfl, rfl⟩ | ⟨g, cap, cur, rfl, hb, hg, hnc, hcm, hcs, ht⟩
  · have : cs = [] := List.eq_nil_of_length_eq_zero (by simpa using h1)
    subst this
    exact Sn.nil n w
  · refine ⟨h1, some ⟨g, 0, none⟩, cap, rfl, hnc, fun h => by simp at h, fun _ => ⟨g, 0, rfl, fun j hj => ?_⟩⟩
    rw [Nat.zero_add, cell_of_row w g j cur e (0, 0) hg]
    have : cs[j]? = (cur.toList.take (m * n))[j]? := by rw [ht]
    rw [this, List.getElem?_take, if_pos (by omega)]
    simp

theorem On.keep {n m : Nat} {w w' : World} {lo hi : Nat} {e : TypeId} {v : Value} {cs : List Value} (h : On n w lo hi e v m cs) (hk : ∀ k, lo ≤ k → k < hi → w'.heap[k]? = w.heap[k]?) : On n w' lo hi e v m cs := by
  obtain ⟨⟨h1, h2⟩, h3⟩ := h
  refine ⟨⟨h1, ?_⟩, h3⟩
  rcases h2 with h2 | ⟨g, cap, cur, rfl, hb, hg, r⟩
  · exact .inl h2
  · exact .inr ⟨g, cap, cur, rfl, hb, by rw [hk g hb (h3 g rfl)]; exact hg, r⟩
theorem On.later {n m : Nat} {w w' : World} {lo hi B : Nat} {e : TypeId} {v : Value} {cs : List Value} (h : On n w lo hi e v m cs) (hb : Below B w w') (hB : hi ≤ B) : On n w' lo hi e v m cs :=
  h.keep fun k _ hk => hb.block k (by omega)
theorem On.apart {n m : Nat} {w w' : World} {lo hi l2 h2 : Nat} {e : TypeId} {v : Value} {cs : List Value} (h : On n w lo hi e v m cs) (hb : Apart l2 h2 w w') (hd : hi ≤ l2 ∨ h2 ≤ lo) (hs : hi ≤ w.heap.size) : On n w' lo hi e v m cs :=
  h.keep fun k _ _ => hb.block k (by omega) (by omega)
theorem On.mono {n m : Nat} {w : World} {lo hi lo' hi' : Nat} {e : TypeId} {v : Value} {cs : List Value} (h : On n w lo hi e v m cs) (h1 : lo' ≤ lo) (h2 : hi ≤ hi') : On n w lo' hi' e v m cs := by
  obtain ⟨⟨ha, hb⟩, hc⟩ := h
  refine ⟨⟨ha, ?_⟩, fun g hg => Nat.lt_of_lt_of_le (hc g hg) h2⟩
  rcases hb with hb | ⟨g, cap, cur, rfl, hb, r⟩
  · exact .inl hb
  · exact .inr ⟨g, cap, cur, rfl, by omega, r⟩
theorem On.of {n m : Nat} {w : World} {lo : Nat} {e : TypeId} {v : Value} {cs : List Value} (h : w.ownsRow lo e n v m cs) : On n w lo w.heap.size e v m cs := ⟨h, fun g hg => (h.lt g hg).2⟩
theorem On.quiet {n m : Nat} {w : World} {lo hi : Nat} {e : TypeId} {v : Value} {cs : List Value} (h : On n w lo hi e v m cs) (k : Nat) : On n (w.drewN k) lo hi e v m cs := h
theorem On.alloc {n m : Nat} {w : World} {lo : Nat} {e : TypeId} {v : Value} {cs : List Value} (h : On n w lo w.heap.size e v m cs) (o : Obj) : On n (w.alloc o) lo (w.alloc o).heap.size e v m cs := On.of (h.1.alloc o)
/-- a world that has grown above -/
theorem On.grow {n m : Nat} {w w' : World} {lo : Nat} {e : TypeId} {v : Value} {cs : List Value} (h : On n w lo w.heap.size e v m cs) (hb : Below w.heap.size w w') : On n w' lo w'.heap.size e v m cs :=
  (h.later hb (Nat.le_refl _)).mono (Nat.le_refl _) hb.size
theorem On.nil (n : Nat) (w : World) (lo hi : Nat) (e : TypeId) : On n w lo hi e (.slice none 0 0) 0 [] := ⟨World.ownsRow_nil w lo e n, fun g hg => by simp [Value.ownBlock] at hg⟩
theorem On.lit (n : Nat) (w : World) (lo : Nat) (e : TypeId) (h : lo ≤ w.heap.size) : On n (w.alloc (.cells #[] e)) lo (w.alloc (.cells #[] e)).heap.size e (.slice (some ⟨w.heap.size, 0, none⟩) 0 0) 0 [] :=
  On.of ⟨by simp, .inr ⟨w.heap.size, 0, #[], rfl, h, heap_alloc_new w _, Nat.le_refl _, Nat.zero_le _, by simp, by simp⟩⟩
theorem On.size {n m : Nat} {w : World} {lo hi : Nat} {e : TypeId} {v : Value} {cs : List Value} (h : On n w lo hi e v m cs) : cs.length = m * n := h.1.1
theorem On.slice {n m : Nat} {w : World} {lo hi : Nat} {e : TypeId} {v : Value} {cs : List Value} (h : On n w lo hi e v m cs) : ∃ ao cap, v = .slice ao m cap := by
  obtain ⟨_, ao, cap, rfl, _⟩ := h.sn
  exact ⟨ao, cap, rfl⟩
theorem Own.on {w : World} {lo hi : Nat} {e : TypeId} {v : Value} {cs : List Value} (h : Own w lo hi e v cs) : On 1 w lo hi e v cs.length cs := h

/-- a new row of cells read as one element -/
theorem Sn.one (n : Nat) (w : World) (cs : Array Value) (t : TypeId) (h : cs.size = n) : Sn n (w.alloc (.cells cs t)) (.slice (some ⟨w.heap.size, 0, none⟩) 1 1) 1 cs.toList := by
  refine ⟨by simp [h], some ⟨w.heap.size, 0, none⟩, 1, rfl, by simp, fun h => (by cases h), fun _ => ⟨w.heap.size, 0, rfl, fun j hj => ?_⟩⟩
  rw [cell_of_row _ w.heap.size (0 + j) cs t (0, 0) (heap_alloc_new w _)]
  simp

theorem wpl_appn {P : Program} (n : Nat) (hn0 : 0 < n) (w : World) {ops : Array Oper} {rest : List Oper} {o : Oper} {a : Act} {Q : Exit → Act → World → Prop}
    (hg : o.guard = none) (s x : Operand) (t : TypeId) (hop : o.op = Op.call { callee := Callee.builtin Builtin.append, args := #[s, x], argTypes := #[t, t] })
    (e : TypeId) (i : TypeInfo) (z : Value) (bytes : Nat) (ht : P.underlying t = some (.slice e)) (hi : P.info? e = some i) (hz : i.zero = some z) (hsize : i.size = n) (hby : i.bytes = bytes) (hzs : z.cells.size = n)
    (lo : Nat) (v : Value) (m : Nat) (cs : List Value) (hs : a.eval s = v) (hown : On n w lo w.heap.size e v m cs) (y : Value) (hx : a.eval x = y) (k : Nat) (news : List Value) (hsl : Sn n w y k news)
    (h1 : ∀ u ∈ news, u.oneCell' = true) (h63 : m + k ≤ maxLen) (hb : (m + k) * bytes ≤ 140737488355328) (hlo : lo ≤ w.heap.size)
    (hK : ∀ v' w', On n w' lo w'.heap.size e v' (m + k) (cs ++ news) → Below lo w w' → w.grownBy w' v.ownBlock → wpList P ops Q rest (a.put o.dst v') w') : wpList P ops Q (o :: rest) a w := by
  obtain ⟨hl, ao, cap, rfl, hc, hn, hr⟩ := hsl
  have hblk : ∀ w', w.grownBy w' v.ownBlock → Below lo w w' := fun w' hg => (Below.refl _ _).grown hg hlo (fun k hk => (hown.1.lt k hk).1)
  cases ao with
  | none =>
    have hcap := hn rfl
    have hk0 : k = 0 := by omega
    subst hk0
    have hnil : news = [] := List.eq_nil_of_length_eq_zero (by simpa using hl)
    subst hnil
    subst hcap
    refine wpList_append_own_none hg s x t hop lo e i n ht hi v m cs hs hown.1 hx ?_
    exact hK v w (by simpa using hown) (Below.refl _ _) (World.grownBy.refl _ _)
  | some ad =>
    refine wpList_append_own w hg s x t hop lo e i z n bytes ht hi hz hsize hby hzs hn0 v m cs hs hown.1 ad k cap news hx hl ?_ h1 h63 hb hlo ?_
    · intro j u hj
      have hlt : j < news.length := (List.getElem?_eq_some_iff.1 hj).1
      obtain ⟨b, off, he, hcell⟩ := hr (by
        rcases Nat.eq_zero_or_pos k with h0 | h0
        · subst h0; simp at hl; subst hl; simp at hlt
        · exact h0)
      obtain rfl := Option.some.inj he
      rw [Addr.add_lit, hcell j hlt, hj]
    · intro v' w' ho hgr _
      exact hK v' w' (On.of ho) (hblk w' hgr) hgr

end Go.Proofs.YtlhmemnaiobgkaaGreatDoor.Mem
